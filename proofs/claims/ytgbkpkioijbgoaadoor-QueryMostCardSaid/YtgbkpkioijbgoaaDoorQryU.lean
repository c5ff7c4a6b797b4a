/- What the plain parser says of the texts of QueryMost. No condition. -/
import Derived.Test.YtgbkpkioijbgoaaDoorQryT
namespace Go.Proofs.YtgbkpkioijbgoaaDoor.qry
open lex (W wordsF wordsL)
open names (Nm mayN)
set_option linter.unusedVariables false
set_option linter.unusedSimpArgs false
set_option maxRecDepth 100000
def c5 (q : Nat) : List W := [⟨1, [97], 0, q⟩, ⟨4, [46], 0, q + 1⟩, ⟨1, [107], 0, q + 2⟩, ⟨4, [61], 0, q + 4⟩, ⟨2, [], 1, q + 6⟩]
def EW : Nat → Nat → List W
  | 0, _ => []
  | a + 1, p => edge6 p ++ EW a (p + 7)
def AW : Nat → Nat → List W
  | 0, _ => []
  | m + 1, p => and6 p ++ AW m (p + 12)
def IW : Nat → Nat → List W
  | 0, _ => []
  | c + 1, p => item4 p ++ IW c (p + 4)
def CW : Nat → Nat → List W
  | 0, _ => []
  | m + 1, p => where6 p ++ AW m (p + 14)
def cLen : Nat → Nat
  | 0 => 0
  | m + 1 => 14 + 12 * m
theorem repT_comm (t : List UInt8) : ∀ n, repT t (n + 1) = t ++ repT t n
  | 0 => by show [] ++ t = t ++ []; simp
  | n + 1 => by
    have h := repT_comm t n
    show repT t (n + 1) ++ t = t ++ (repT t n ++ t)
    rw [h, List.append_assoc]
abbrev kT : List UInt8 := [32, 97, 46, 107, 32, 61, 32, 49]
abbrev whT : List UInt8 := [32, 119, 104, 101, 114, 101] ++ kT
abbrev anT : List UInt8 := [32, 97, 110, 100] ++ kT
theorem condsT_eq : ∀ n, condsT (n + 1) = whT ++ repT anT n
  | 0 => rfl
  | n + 1 => by
    have h := condsT_eq n
    show condsT (n + 1) ++ ((if n + 1 = 0 then [32, 119, 104, 101, 114, 101] else [32, 97, 110, 100]) ++ kT) = whT ++ (repT anT n ++ anT)
    rw [h, if_neg (Nat.succ_ne_zero n), List.append_assoc]
theorem lx_edges : ∀ (a f pos : Nat) (r : List UInt8) (acc : List W), wordsF (f + 6 * a) (repT edgeT a ++ r) pos acc = wordsF f r (pos + 7 * a) (acc ++ EW a pos)
  | 0, f, pos, r, acc => by rw [EW, List.append_nil]; rfl
  | a + 1, f, pos, r, acc => by
    rw [repT_comm, List.append_assoc, show f + 6 * (a + 1) = (f + 6 * a) + 6 by omega, lx_edge, lx_edges a, app_eq, EW, List.append_assoc, show pos + 7 + 7 * a = pos + 7 * (a + 1) by omega]
theorem rep_head (n : Nat) (r : List UInt8) : ∃ t, repT anT n ++ 32 :: r = 32 :: t := by
  cases n with
  | zero => exact ⟨r, rfl⟩
  | succ n => rw [repT_comm]; exact ⟨_, rfl⟩
theorem lx_ands : ∀ (m f pos : Nat) (r : List UInt8) (acc : List W), wordsF (f + 10 * m) (repT anT m ++ 32 :: r) pos acc = wordsF f (32 :: r) (pos + 12 * m) (acc ++ AW m pos)
  | 0, f, pos, r, acc => by rw [AW, List.append_nil]; rfl
  | m + 1, f, pos, r, acc => by
    obtain ⟨t, ht⟩ := rep_head m r
    rw [repT_comm, List.append_assoc, ht, show f + 10 * (m + 1) = (f + 10 * m) + 10 by omega, lx_and, ← ht, lx_ands m, app_eq, AW, List.append_assoc, show pos + 12 + 12 * m = pos + 12 * (m + 1) by omega]
theorem lx_conds (b f pos : Nat) (r : List UInt8) (acc : List W) : wordsF (f + 10 * b) (condsT b ++ 32 :: r) pos acc = wordsF f (32 :: r) (pos + cLen b) (acc ++ CW b pos) := by
  cases b with
  | zero => rw [CW, List.append_nil]; rfl
  | succ m =>
    obtain ⟨t, ht⟩ := rep_head m r
    rw [condsT_eq, List.append_assoc, ht, show f + 10 * (m + 1) = (f + 10 * m) + 10 by omega, lx_where, ← ht, lx_ands m, app_eq, CW, cLen, List.append_assoc, show pos + 14 + 12 * m = pos + (14 + 12 * m) by omega]
theorem item_head (n : Nat) (r : List UInt8) (h : r = [] ∨ ∃ t, r = 32 :: t) : repT [44, 97, 46, 107] n ++ r = [] ∨ (∃ t, repT [44, 97, 46, 107] n ++ r = 44 :: t) ∨ ∃ t, repT [44, 97, 46, 107] n ++ r = 32 :: t := by
  cases n with
  | zero => rcases h with h | ⟨t, h⟩; exact Or.inl h; exact Or.inr (Or.inr ⟨t, h⟩)
  | succ n => rw [repT_comm]; exact Or.inr (Or.inl ⟨_, rfl⟩)
theorem lx_items : ∀ (c f pos : Nat) (r : List UInt8) (acc : List W), (r = [] ∨ ∃ t, r = 32 :: t) → wordsF (f + 4 * c) (repT [44, 97, 46, 107] c ++ r) pos acc = wordsF f r (pos + 4 * c) (acc ++ IW c pos)
  | 0, f, pos, r, acc, h => by rw [IW, List.append_nil]; rfl
  | c + 1, f, pos, r, acc, h => by
    rw [repT_comm, List.append_assoc, show f + 4 * (c + 1) = (f + 4 * c) + 4 by omega, lx_item _ _ _ _ (item_head c r h), lx_items c _ _ _ _ h, app_eq, IW, List.append_assoc, show pos + 4 + 4 * c = pos + 4 * (c + 1) by omega]
/-- the words ahead of the limit -/
def preW (a b c : Nat) : List W := head4 0 ++ (EW a 8 ++ (CW b (8 + 7 * a) ++ (tell2 (8 + 7 * a + cLen b) ++ IW c (8 + 7 * a + cLen b + 7))))
def preP (a b c : Nat) : Nat := 8 + 7 * a + cLen b + 7 + 4 * c
theorem condsT_len2 : ∀ b, (condsT b).length = cLen b
  | 0 => rfl
  | m + 1 => by
    rw [condsT_eq, List.length_append]
    have h : ∀ n, (repT anT n).length = 12 * n := by
      intro n
      induction n with
      | zero => rfl
      | succ n ih => rw [repT, List.length_append, ih]; show 12 * n + 12 = _; omega
    rw [h]; rfl
theorem repT_len2 (t : List UInt8) : ∀ n, (repT t n).length = t.length * n
  | 0 => rfl
  | n + 1 => by rw [repT, List.length_append, repT_len2 t n, Nat.mul_succ]
theorem cLen_ge : ∀ b, 10 * b ≤ cLen b
  | 0 => Nat.le_refl _
  | m + 1 => by rw [cLen]; omega
theorem words_most (a b c : Nat) (L : List UInt8) (hL : L = [] ∨ ∃ t, L = 32 :: t) : ∃ f, wordsL (mostT a b c ++ L) = wordsF (f + L.length) L (preP a b c) (preW a b c) := by
  have e : mostT a b c ++ L = [102, 105, 110, 100, 32, 40, 97, 41] ++ (repT edgeT a ++ (condsT b ++ (32 :: ([116, 101, 108, 108, 32, 97] ++ (repT [44, 97, 46, 107] c ++ L))))) := by
    unfold mostT
    simp only [List.append_assoc]
    rfl
  have hlen : (mostT a b c ++ L).length = 8 + 7 * a + cLen b + 7 + 4 * c + L.length := by
    rw [e]
    simp only [List.length_append, List.length_cons, repT_len2, condsT_len2]
    have h3 : edgeT.length = 7 := rfl
    rw [h3]
    simp only [List.length_nil]
    omega
  have hge := cLen_ge b
  refine ⟨(mostT a b c ++ L).length + 1 - (5 + 6 * a + 10 * b + 4 + 4 * c + L.length), ?_⟩
  obtain ⟨f, hf⟩ : ∃ f, f = (mostT a b c ++ L).length + 1 - (5 + 6 * a + 10 * b + 4 + 4 * c + L.length) := ⟨_, rfl⟩
  rw [← hf]
  unfold wordsL
  have hfu : (mostT a b c ++ L).length + 1 = ((((f + L.length + 4 * c) + 4) + 10 * b) + 6 * a) + 5 := by omega
  rw [hfu, e, lx_head, lx_edges, lx_conds]
  have ht : (32 :: ([116, 101, 108, 108, 32, 97] ++ (repT [44, 97, 46, 107] c ++ L)) : List UInt8) = [32, 116, 101, 108, 108, 32, 97] ++ (repT [44, 97, 46, 107] c ++ L) := rfl
  rw [ht, lx_tell _ _ _ _ (item_head c L hL), lx_items c _ _ _ _ hL, app_eq, app_eq]
  have hp : 0 + 8 + 7 * a + cLen b + 7 + 4 * c = preP a b c := by unfold preP; omega
  rw [hp]
  congr 1
  unfold preW
  simp only [List.append_assoc, Nat.zero_add, List.nil_append]
theorem words_0 (a b c : Nat) : wordsL (mostT a b c) = (some (preW a b c ++ [⟨0, [], 0, preP a b c⟩]), 0) := by
  obtain ⟨f, h⟩ := words_most a b c [] (Or.inl rfl)
  rw [List.append_nil] at h
  rw [h, lx_end, app_eq]
theorem words_256 (a b c : Nat) : wordsL (mostT a b c ++ lim256T) = (some (preW a b c ++ (lim2 256 (preP a b c) ++ [⟨0, [], 0, preP a b c + 10⟩])), 0) := by
  obtain ⟨f, h⟩ := words_most a b c lim256T (Or.inr ⟨_, rfl⟩)
  rw [h, show f + lim256T.length = (f + 5) + 5 by show f + 10 = _; omega, lx_256, app_eq, app_eq, List.append_assoc]
theorem words_257 (a b c : Nat) : wordsL (mostT a b c ++ lim257T) = (some (preW a b c ++ (lim2 257 (preP a b c) ++ [⟨0, [], 0, preP a b c + 10⟩])), 0) := by
  obtain ⟨f, h⟩ := words_most a b c lim257T (Or.inr ⟨_, rfl⟩)
  rw [h, show f + lim257T.length = (f + 5) + 5 by show f + 10 = _; omega, lx_257, app_eq, app_eq, List.append_assoc]
end Go.Proofs.YtgbkpkioijbgoaaDoor.qry
