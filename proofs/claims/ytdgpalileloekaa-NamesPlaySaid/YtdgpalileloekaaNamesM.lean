/- Names out of bytes, and as bytes: plain mathematics. No condition. -/
import Derived.Test.YtdgpalileloekaaNamesG
import Derived.Test.YtdgpalileloekaaNamesP
namespace Go.Proofs.Ytdgpalileloekaa.names
open Go.RowKit
open code (numE rdC endE failE textE numL textL rdNum takeNum takeText)
set_option linter.unusedVariables false
set_option maxRecDepth 100000

theorem rdNum_inv : ∀ (l : List UInt8) (i acc n : Nat) (r : List UInt8), rdNum i acc l = (n, r, 0) → ∃ m, l = numL m ++ r ∧ n = acc + m * 128 ^ i ∧ (0 < i → 0 < m)
  | [], i, acc, n, r, h => by simp [rdNum] at h
  | b :: t, i, acc, n, r, h => by
    unfold rdNum at h
    have hb := b.toNat_lt
    split at h
    · simp at h
    · rename_i h1
      split at h
      · rename_i h2
        simp only [Prod.mk.injEq, and_true] at h
        obtain ⟨h3, rfl⟩ := h
        refine ⟨b.toNat, ?_, ?_, fun h0 => ?_⟩
        · rw [code.numL_small _ h2]
          simp
        · rw [← h3, Nat.mod_eq_of_lt h2]
        · have : ¬ (0 < i ∧ b.toNat = 0) := fun hh => h1 (Or.inl hh)
          omega
      · rename_i h2
        obtain ⟨m, hm1, hm2, hm3⟩ := rdNum_inv t (i + 1) _ n r h
        have hm0 := hm3 (by omega)
        refine ⟨b.toNat % 128 + 128 * m, ?_, ?_, fun _ => by omega⟩
        · rw [code.numL_big _ (by omega), hm1]
          have e1 : (b.toNat % 128 + 128 * m) % 128 + 128 = b.toNat := by omega
          have e2 : (b.toNat % 128 + 128 * m) / 128 = m := by omega
          rw [e1, e2]
          simp
        · rw [hm2, Nat.pow_succ, Nat.add_mul, Nat.add_assoc, Nat.mul_comm (128 ^ i) 128, ← Nat.mul_assoc, Nat.mul_comm m 128]
theorem takeNum_inv {most : Nat} {l : List UInt8} {n : Nat} {r : List UInt8} (h : takeNum most l = (n, r, 0)) : l = numL n ++ r ∧ n ≤ most := by
  unfold takeNum at h
  simp only at h
  split at h
  · simp at h
  · rename_i h1
    obtain ⟨m, hm1, hm2, _⟩ := rdNum_inv l 0 0 n r h
    have e : n = m := by rw [hm2]; simp
    subst e
    refine ⟨hm1, ?_⟩
    rw [h] at h1
    simp at h1
    exact h1
theorem textE_inv {l : List UInt8} {t r : List UInt8} (h : textE 20 l 0 = (t, r, 0)) : l = textL t ++ r ∧ t.length ≤ 20 := by
  have hlen : (textE 20 l 0).1.length ≤ 20 := text_len l
  rw [h] at hlen
  refine ⟨?_, hlen⟩
  unfold textE at h
  rw [if_pos rfl] at h
  unfold takeText at h
  simp only at h
  split at h
  · rename_i h1
    simp only [Prod.mk.injEq] at h
    exact absurd h.2.2 h1
  · rename_i h1
    split at h
    · rename_i h2
      simp only [Prod.mk.injEq, and_true] at h
      obtain ⟨rfl, rfl⟩ := h
      generalize hx : takeNum (min (max (20 : Int) 0) 65536).toNat l = x at *
      obtain ⟨n, r1, e⟩ := x
      simp only [ne_eq, Decidable.not_not] at h1 h2
      simp only
      subst h1
      have := (takeNum_inv hx).1
      unfold textL
      rw [List.length_take, Nat.min_eq_left h2, List.append_assoc, List.take_append_drop]
      exact this
    · simp at h
def Ok (l : List Nm) : Prop := l.length ≤ 64 ∧ l.Nodup ∧ ∀ x ∈ l, mayN x = true
theorem nmLoop_inv : ∀ (n : Nat) (acc : List Nm) (l : List UInt8) (M : List Nm) (r : List UInt8), nmLoop n acc l = (M, r, 0) → ∃ ys : List Nm, M = acc ++ ys ∧ ys.length = n ∧ l = ys.flatMap textL ++ r ∧ (∀ y ∈ ys, mayN y = true) ∧ (acc.Nodup → M.Nodup)
  | 0, acc, l, M, r, h => by
    unfold nmLoop at h
    simp only [Prod.mk.injEq, and_true] at h
    obtain ⟨rfl, rfl⟩ := h
    exact ⟨[], by simp, rfl, by simp, by simp, fun h => h⟩
  | n + 1, acc, l, M, r, h => by
    unfold nmLoop at h
    simp only at h
    generalize hx : textE 20 l 0 = x at h
    obtain ⟨t, l2, e2⟩ := x
    simp only at h
    split at h
    · rename_i h1
      simp only [Prod.mk.injEq] at h
      exact absurd h.2.2 h1
    · rename_i h1
      have h1 : e2 = 0 := by simpa using h1
      subst h1
      split at h
      · simp at h
      · rename_i h2
        have h2a : t ∉ acc := fun hh => h2 (Or.inl hh)
        have h2b : mayN t = true := by
          cases hm : mayN t with
          | true => rfl
          | false => exact absurd (Or.inr hm) h2
        obtain ⟨ys, e1, e2, e3, e4, e5⟩ := nmLoop_inv n (acc ++ [t]) l2 M r h
        refine ⟨t :: ys, by rw [e1]; simp, by simp [e2], ?_, ?_, fun hn => e5 ?_⟩
        · rw [(textE_inv hx).1, e3]; simp
        · intro y hy
          rcases List.mem_cons.1 hy with rfl | hy
          · exact h2b
          · exact e4 y hy
        · rw [List.nodup_append]
          refine ⟨hn, by simp, ?_⟩
          intro a ha b hb hab
          simp at hb
          subst hb hab
          exact h2a ha
theorem kindE_inv {l : List UInt8} {e : Int} {M : List Nm} {r : List UInt8} (h : kindE l e = (M, r, 0)) : e = 0 ∧ l = putN M ++ r ∧ Ok M := by
  have he : e = 0 := by
    by_cases he : e = 0
    · exact he
    · rw [kindE_err l e he] at h
      simp only [Prod.mk.injEq] at h
      exact h.2.2
  subst he
  refine ⟨rfl, ?_⟩
  unfold kindE at h
  generalize hm : numE 64 l 0 = m at h
  obtain ⟨n, l1, e1⟩ := m
  simp only at h
  unfold loopE at h
  split at h
  · rename_i h1
    simp only [Prod.mk.injEq] at h
    exact absurd h.2.2 h1
  · rename_i h1
    have h1 : e1 = 0 := by simpa using h1
    subst h1
    unfold numE at hm
    rw [if_pos rfl] at hm
    obtain ⟨h2, h3⟩ := takeNum_inv hm
    obtain ⟨ys, e1, e2, e3, e4, e5⟩ := nmLoop_inv n [] l1 M r h
    simp only [List.nil_append] at e1
    subst e1
    refine ⟨?_, by omega, e5 (by simp), e4⟩
    rw [h2, e3]
    unfold putN
    rw [e2, List.append_assoc]
theorem putTo_congr {L M : Nat → List Nm} : ∀ (k : Nat), (∀ i, i < k → L i = M i) → putTo L k = putTo M k
  | 0, _ => rfl
  | k + 1, h => by
    unfold putTo
    rw [putTo_congr k (fun i hi => h i (by omega)), h k (by omega)]
theorem kindsE_inv : ∀ (f k : Nat) (L : Nat → List Nm) (l : List UInt8) (e : Int) (M : Nat → List Nm) (r : List UInt8), kindsE f k L l e = (M, r, 0) → e = 0 ∧ (∃ s', l = s' ++ r ∧ putTo M (k + f) = putTo L k ++ s') ∧ (∀ i, i < k → M i = L i) ∧ ∀ i, k ≤ i → i < k + f → Ok (M i)
  | 0, k, L, l, e, M, r, h => by
    unfold kindsE at h
    simp only [Prod.mk.injEq] at h
    obtain ⟨rfl, rfl, rfl⟩ := h
    exact ⟨rfl, ⟨[], by simp, by simp⟩, fun _ _ => rfl, fun i h1 h2 => by omega⟩
  | f + 1, k, L, l, e, M, r, h => by
    unfold kindsE at h
    obtain ⟨h1, ⟨s', h2, h3⟩, h4, h5⟩ := kindsE_inv f (k + 1) _ _ _ M r h
    have hk : kindE l e = ((kindE l e).1, (kindE l e).2.1, 0) := by rw [← h1]
    obtain ⟨g1, g2, g3⟩ := kindE_inv hk
    have hM : M k = (kindE l e).1 := by rw [h4 k (by omega), upd_same]
    refine ⟨g1, ⟨putN (kindE l e).1 ++ s', ?_, ?_⟩, fun i hi => ?_, fun i hi1 hi2 => ?_⟩
    · rw [List.append_assoc, ← h2]; exact g2
    · have e1 : k + (f + 1) = k + 1 + f := by omega
      rw [e1, h3]
      show putTo (upd L k (kindE l e).1) k ++ putN (upd L k (kindE l e).1 k) ++ s' = _
      rw [upd_same, putTo_congr (L := upd L k (kindE l e).1) (M := L) k (fun i hi => upd_ne _ _ _ _ (by omega)), List.append_assoc]
    · rw [h4 i (by omega), upd_ne _ _ _ _ (by omega)]
    · by_cases hik : i = k
      · subst hik; rw [hM]; exact g3
      · exact h5 i (by omega) (by omega)
theorem getN_inv (s : List UInt8) (h : (getN s).2 = 0) : s = putB (getN s).1 ∧ ∀ k, k < 3 → Ok ((getN s).1 k) := by
  unfold getN at h ⊢
  simp only at h ⊢
  generalize hR : kindsE 3 0 (fun _ => []) s 0 = R at *
  obtain ⟨M, r, e⟩ := R
  simp only at h ⊢
  unfold endE at h
  split at h
  · cases h
  · rename_i h1
    subst h
    have hr : r = [] := by
      by_cases hr : r = []
      · exact hr
      · exact absurd ⟨rfl, hr⟩ h1
    subst hr
    obtain ⟨_, ⟨s', h2, h3⟩, _, h5⟩ := kindsE_inv 3 0 _ s 0 M [] hR
    refine ⟨?_, fun k hk => h5 k (by omega) (by omega)⟩
    unfold putB
    rw [show (3 : Nat) = 0 + 3 from rfl, h3, h2]
    simp [putTo]
/-! ### and back -/
theorem nmLoop_put : ∀ (ys acc : List Nm) (r : List UInt8), (acc ++ ys).Nodup → (∀ y ∈ ys, mayN y = true) → nmLoop ys.length acc (ys.flatMap textL ++ r) = (acc ++ ys, r, 0)
  | [], acc, r, _, _ => by simp [nmLoop]
  | y :: ys, acc, r, hn, hm => by
    have hy := hm y (by simp)
    have hyl := mayN_len hy
    have e : (y :: ys).flatMap textL ++ r = textL y ++ (ys.flatMap textL ++ r) := by simp
    have ht : textE 20 (textL y ++ (ys.flatMap textL ++ r)) 0 = (y, ys.flatMap textL ++ r, 0) := by
      unfold textE textL
      rw [if_pos rfl, List.append_assoc]
      exact code.takeText_put y _ 20 (by omega) (by omega)
    rw [e, List.length_cons, nmLoop, ht]
    simp only [ne_eq, not_true_eq_false, if_false]
    have hna : y ∉ acc := by
      intro hh
      rw [List.nodup_append] at hn
      exact hn.2.2 y hh y (by simp) rfl
    rw [if_neg (by rintro (h | h); exact hna h; rw [hy] at h; cases h)]
    have := nmLoop_put ys (acc ++ [y]) r (by simpa using hn) (fun z hz => hm z (by simp [hz]))
    rw [this]; simp
theorem kindE_put (M : List Nm) (r : List UInt8) (h : Ok M) : kindE (putN M ++ r) 0 = (M, r, 0) := by
  obtain ⟨h1, h2, h3⟩ := h
  have hn : numE 64 (putN M ++ r) 0 = (M.length, M.flatMap textL ++ r, 0) := by
    unfold putN
    rw [List.append_assoc]
    exact code.numE_put _ _ _ (by omega) h1
  unfold kindE
  rw [hn]
  simp only
  unfold loopE
  rw [if_neg (by simp)]
  have := nmLoop_put M [] r (by simpa using h2) h3
  simpa using this
theorem getN_put (L : Nat → List Nm) (h : ∀ k, k < 3 → Ok (L k)) : (getN (putB L)).2 = 0 ∧ ∀ k, k < 3 → (getN (putB L)).1 k = L k := by
  have e : putB L = putN (L 0) ++ (putN (L 1) ++ (putN (L 2) ++ [])) := by simp [putB, putTo]
  have h0 := kindE_put (L 0) (putN (L 1) ++ (putN (L 2) ++ [])) (h 0 (by decide))
  have h1 := kindE_put (L 1) (putN (L 2) ++ []) (h 1 (by decide))
  have h2 := kindE_put (L 2) [] (h 2 (by decide))
  have hk : kindsE 3 0 (fun _ => []) (putB L) 0 = (upd (upd (upd (fun _ => []) 0 (L 0)) 1 (L 1)) 2 (L 2), [], 0) := by
    rw [e]
    simp only [kindsE]
    rw [h0]
    simp only
    rw [h1]
    simp only
    rw [h2]
  unfold getN
  rw [hk]
  refine ⟨rfl, fun k hk => ?_⟩
  match k, hk with
  | 0, _ => rfl
  | 1, _ => rfl
  | 2, _ => rfl
/-! ### which errors -/
def E3 (e : Int) : Prop := e = 0 ∨ e = 2 ∨ e = 3
theorem rdNum_err : ∀ (l : List UInt8) (i acc : Nat), E3 (rdNum i acc l).2.2
  | [], i, acc => Or.inr (Or.inl rfl)
  | b :: t, i, acc => by
    unfold rdNum
    split
    · exact Or.inr (Or.inr rfl)
    · split
      · exact Or.inl rfl
      · exact rdNum_err t _ _
theorem takeNum_err (m : Nat) (l : List UInt8) : E3 (takeNum m l).2.2 := by
  unfold takeNum
  simp only
  split
  · exact Or.inr (Or.inr rfl)
  · exact rdNum_err _ _ _
theorem textE_err (l : List UInt8) : E3 (textE 20 l 0).2.2 := by
  unfold textE
  rw [if_pos rfl]
  unfold takeText
  simp only
  split
  · exact takeNum_err _ _
  · split
    · exact Or.inl rfl
    · exact Or.inr (Or.inl rfl)
theorem nmLoop_err : ∀ (n : Nat) (acc : List Nm) (l : List UInt8), E3 (nmLoop n acc l).2.2
  | 0, acc, l => Or.inl rfl
  | n + 1, acc, l => by
    unfold nmLoop
    simp only
    split
    · exact textE_err l
    · split
      · exact Or.inr (Or.inr rfl)
      · exact nmLoop_err n _ _
theorem kindE_e3 (l : List UInt8) (e : Int) (h : E3 e) : E3 (kindE l e).2.2 := by
  by_cases he : e = 0
  · subst he
    unfold kindE loopE
    split
    · unfold numE; rw [if_pos rfl]; exact takeNum_err _ _
    · exact nmLoop_err _ _ _
  · rw [kindE_err l e he]; exact h
theorem kindsE_e3 : ∀ (f k : Nat) (L : Nat → List Nm) (l : List UInt8) (e : Int), E3 e → E3 (kindsE f k L l e).2.2
  | 0, k, L, l, e, h => h
  | f + 1, k, L, l, e, h => by
    unfold kindsE
    exact kindsE_e3 f (k + 1) _ _ _ (kindE_e3 l e h)
theorem getN_e3 (s : List UInt8) : E3 (getN s).2 := by
  unfold getN endE
  simp only
  split
  · exact Or.inr (Or.inr rfl)
  · exact kindsE_e3 3 0 _ s 0 (Or.inl rfl)
end Go.Proofs.Ytdgpalileloekaa.names
