/- Sixteen who hold six things: plain mathematics of the law LockPlays. No condition. -/
import Derived.Test.YtmeaidkbkelclabLockA
namespace Go.Proofs.Ytmeaidkbkelclab.lock
open Go.RowKit
set_option linter.unusedVariables false
set_option maxRecDepth 100000

def nameK (k : Nat) : List UInt8 := [UInt8.ofNat (97 + k)]
theorem nameK_inj {i j : Nat} (hi : i < 6) (hj : j < 6) (h : nameK i = nameK j) : i = j := by
  unfold nameK at h
  simp only [List.cons.injEq, and_true] at h
  have := congrArg UInt8.toNat h
  rw [UInt8.toNat_ofNat', UInt8.toNat_ofNat'] at this
  omega
/-- who holds which of the six how, as a table of names -/
def tOf (M : Nat → Nat → Nat) : List UInt8 → Nat → Nat
  | [c], x => if 97 ≤ c.toNat ∧ c.toNat < 103 then M x (c.toNat - 97) else 0
  | _, _ => 0
theorem tOf_name (M : Nat → Nat → Nat) {k : Nat} (hk : k < 6) : tOf M (nameK k) = fun x => M x k := by
  funext x
  unfold tOf nameK
  have e : (UInt8.ofNat (97 + k)).toNat = 97 + k := by rw [UInt8.toNat_ofNat']; omega
  simp only [e]
  rw [if_pos (by omega), show 97 + k - 97 = k by omega]
theorem tOf_cases (M : Nat → Nat → Nat) (j : List UInt8) : (∃ k, k < 6 ∧ j = nameK k) ∨ tOf M j = fun _ => 0 := by
  match j with
  | [] => right; rfl
  | [c] =>
    by_cases h : 97 ≤ c.toNat ∧ c.toNat < 103
    · left
      refine ⟨c.toNat - 97, by omega, ?_⟩
      unfold nameK
      rw [show 97 + (c.toNat - 97) = c.toNat by omega]
      simp
    · right; funext x; unfold tOf; simp only; rw [if_neg h]
  | _ :: _ :: _ => right; rfl
theorem tOf_ext {M' : Nat → Nat → Nat} {V : List UInt8 → Nat → Nat} (h1 : ∀ k, k < 6 → V (nameK k) = fun x => M' x k) (h2 : ∀ j, (∀ k, k < 6 → j ≠ nameK k) → V j = fun _ => 0) : V = tOf M' := by
  funext j
  rcases tOf_cases M' j with ⟨k, hk, rfl⟩ | h
  · rw [h1 k hk, tOf_name M' hk]
  · by_cases hj : ∃ k, k < 6 ∧ j = nameK k
    · obtain ⟨k, hk, rfl⟩ := hj
      rw [h1 k hk, tOf_name M' hk]
    · rw [h2 j (fun k hk e => hj ⟨k, hk, e⟩), h]
theorem tOf_out {M : Nat → Nat → Nat} {j : List UInt8} (hj : ∀ k, k < 6 → j ≠ nameK k) : tOf M j = fun _ => 0 := by
  rcases tOf_cases M j with ⟨k, hk, h⟩ | h
  · exact absurd h (hj k hk)
  · exact h
def cntK (M : Nat → Nat → Nat) (x n : Nat) : Nat := ((List.range n).filter fun k => decide (M x k ≠ 0)).length
theorem cntK_succ (M : Nat → Nat → Nat) (x n : Nat) : cntK M x (n + 1) = cntK M x n + if M x n = 0 then 0 else 1 := by
  unfold cntK
  rw [List.range_succ, List.filter_append, List.length_append]
  by_cases h : M x n = 0 <;> simp [h]
theorem cntK_le (M : Nat → Nat → Nat) (x n : Nat) : cntK M x n ≤ n := Nat.le_trans (List.length_filter_le _ _) (by simp)
theorem cntK_congr {M M' : Nat → Nat → Nat} {x n : Nat} (h : ∀ k, k < n → (M x k = 0 ↔ M' x k = 0)) : cntK M x n = cntK M' x n := by
  unfold cntK
  congr 1
  refine List.filter_congr fun k hk => ?_
  have := h k (List.mem_range.1 hk)
  by_cases h0 : M x k = 0
  · simp [h0, this.1 h0]
  · have h1 : M' x k ≠ 0 := fun e => h0 (this.2 e)
    simp [h0, h1]
def heldOf (M : Nat → Nat → Nat) : Nat → Nat := fun x => cntK M x 6
def colH (M : Nat → Nat → Nat) (k : Nat) : Bool := anyH fun x => M x k
def thgK (M : Nat → Nat → Nat) (n : Nat) : Nat := ((List.range n).filter (colH M)).length
theorem thgK_succ (M : Nat → Nat → Nat) (n : Nat) : thgK M (n + 1) = thgK M n + if colH M n then 1 else 0 := by
  unfold thgK
  rw [List.range_succ, List.filter_append, List.length_append]
  cases h : colH M n <;> simp [h]
theorem thgK_le (M : Nat → Nat → Nat) (n : Nat) : thgK M n ≤ n := Nat.le_trans (List.length_filter_le _ _) (by simp)
/-- how many things the table has -/
theorem LockAt.thg {w : World} {g m N : Nat} {M : Nat → Nat → Nat} {held : Nat → Nat} {things : Nat} (h : LockAt w g m N (tOf M) held things) : things = thgK M 6 := by
  obtain ⟨D, c, h1, h2, h3, h4, h5⟩ := h.own
  have hnd : (((List.range 6).filter (colH M)).map nameK).Nodup := by
    rw [List.Nodup, List.pairwise_map]
    refine ((List.nodup_range (n := 6)).filter _).imp_of_mem ?_
    intro a b ha hb hab e
    have ha2 := List.mem_range.1 (List.mem_filter.1 ha).1
    have hb2 := List.mem_range.1 (List.mem_filter.1 hb).1
    exact hab (nameK_inj ha2 hb2 e)
  have := size_of_keys h1 (((List.range 6).filter (colH M)).map nameK) hnd (fun j => by
    rw [h3, List.mem_map]
    constructor
    · intro hj
      rcases tOf_cases M j with ⟨k, hk, rfl⟩ | hz
      · rw [tOf_name M hk] at hj
        exact ⟨k, List.mem_filter.2 ⟨List.mem_range.2 hk, hj⟩, rfl⟩
      · rw [hz] at hj; cases hj
    · rintro ⟨k, hk, rfl⟩
      obtain ⟨hk1, hk2⟩ := List.mem_filter.1 hk
      rw [tOf_name M (List.mem_range.1 hk1)]; exact hk2)
  rw [← h5, this, List.length_map]; rfl
/-- what is always so -/
structure Inv (M : Nat → Nat → Nat) : Prop where
  le : ∀ x k, M x k ≤ 2
  one : ∀ x y k, x < 16 → y < 16 → M x k = 2 → M y k ≠ 0 → x = y
theorem Inv.zero : Inv fun _ _ => 0 := ⟨fun _ _ => by omega, fun x y k _ _ h => by omega⟩
def freeM (M : Nat → Nat → Nat) (who : Nat) : Nat → Nat → Nat := fun x k => if x = who then 0 else M x k
theorem Inv.free {M : Nat → Nat → Nat} (h : Inv M) (who : Nat) : Inv (freeM M who) := by
  refine ⟨fun x k => ?_, fun x y k hx hy h1 h2 => ?_⟩
  · unfold freeM; split; omega; exact h.le x k
  · unfold freeM at h1 h2
    by_cases hxw : x = who
    · rw [if_pos hxw] at h1; omega
    · by_cases hyw : y = who
      · rw [if_pos hyw] at h2; omega
      · rw [if_neg hxw] at h1; rw [if_neg hyw] at h2
        exact h.one x y k hx hy h1 h2
theorem free_tOf (M : Nat → Nat → Nat) (who : Nat) : freeT (tOf M) who = tOf (freeM M who) :=
  tOf_ext (fun k hk => by funext x; unfold freeT freeH freeM; rw [tOf_name M hk]) (fun j hj => by funext x; unfold freeT freeH; rw [tOf_out hj]; simp)
theorem free_held (M : Nat → Nat → Nat) (who : Nat) : (fun x => if x = who then 0 else heldOf M x) = heldOf (freeM M who) := by
  funext x
  unfold heldOf
  by_cases hx : x = who
  · subst hx
    rw [if_pos rfl]
    have : ∀ n, cntK (freeM M x) x n = 0 := fun n => by
      unfold cntK freeM; simp
    rw [this]
  · rw [if_neg hx]
    exact cntK_congr fun k _ => by unfold freeM; rw [if_neg hx]
theorem free_same {M : Nat → Nat → Nat} {who : Nat} (h : heldOf M who = 0) : ∀ k, k < 6 → M who k = 0 := by
  intro k hk
  unfold heldOf cntK at h
  rw [List.length_eq_zero_iff, List.filter_eq_nil_iff] at h
  have := h k (List.mem_range.2 hk)
  simpa using this
def takeM (M : Nat → Nat → Nat) (who k : Nat) (al : Bool) : Nat → Nat → Nat := fun x j => if x = who ∧ j = k then (if al then 2 else if M who k = 0 then 1 else M who k) else M x j
theorem take_tOf (M : Nat → Nat → Nat) (who : Nat) {k : Nat} (hk : k < 6) (al : Bool) : newT (tOf M) (nameK k) (newH (tOf M (nameK k)) who al) = tOf (takeM M who k al) :=
  tOf_ext (fun j hj => by
    funext x
    unfold newT newH takeM
    by_cases hjk : j = k
    · subst hjk
      rw [if_pos rfl, tOf_name M hk]
      by_cases hx : x = who <;> simp [hx]
    · rw [if_neg (fun e => hjk (nameK_inj hj hk e)), tOf_name M hj]
      simp [hjk]) (fun j hj => by unfold newT; rw [if_neg (hj k hk), tOf_out hj])
theorem cntK_take (M : Nat → Nat → Nat) (x k : Nat) (al : Bool) : ∀ n, cntK (takeM M x k al) x n = cntK M x n + if k < n ∧ M x k = 0 then 1 else 0
  | 0 => by simp [cntK]
  | n + 1 => by
    rw [cntK_succ, cntK_succ, cntK_take M x k al n]
    by_cases hn : n = k
    · subst hn
      have hv : takeM M x n al x n ≠ 0 := by
        unfold takeM; rw [if_pos ⟨rfl, rfl⟩]; split; omega; split <;> omega
      rw [if_neg hv]
      by_cases h0 : M x n = 0 <;> simp [h0]
    · have hv : takeM M x k al x n = M x n := by unfold takeM; rw [if_neg (fun h => hn h.2)]
      rw [hv]
      have : (k < n + 1 ∧ M x k = 0) ↔ (k < n ∧ M x k = 0) := ⟨fun h => ⟨by omega, h.2⟩, fun h => ⟨by omega, h.2⟩⟩
      simp only [this]
      omega
theorem take_held (M : Nat → Nat → Nat) (who : Nat) {k : Nat} (hk : k < 6) (al : Bool) : heldUp (heldOf M) (tOf M (nameK k)) who = heldOf (takeM M who k al) := by
  rw [tOf_name M hk]
  funext x
  unfold heldUp
  by_cases hx : x = who
  · subst hx
    rw [if_pos rfl]
    unfold heldOf
    rw [cntK_take]
    by_cases h0 : M x k = 0
    · rw [if_pos h0, if_pos ⟨hk, h0⟩]
    · rw [if_neg h0, if_neg (fun h => h0 h.2)]; rfl
  · rw [if_neg hx]
    unfold heldOf
    exact cntK_congr fun j _ => by unfold takeM; rw [if_neg (fun h => hx h.1)]
theorem Inv.take {M : Nat → Nat → Nat} (h : Inv M) {who k : Nat} (hw : who < 16) {al : Bool} (hag : agK (fun x => M x k) who al 16 = []) : Inv (takeM M who k al) := by
  have hn : ∀ x, x < 16 → x ≠ who → M x k ≠ 2 ∧ (al = true → M x k = 0) := by
    intro x hx hne
    unfold agK at hag
    rw [List.filter_eq_nil_iff] at hag
    have := hag x (List.mem_range.2 hx)
    unfold isAg at this
    simp only [Bool.and_eq_true, Bool.or_eq_true, decide_eq_true_eq, not_and, not_or] at this
    obtain ⟨h1, h2⟩ := this hne
    refine ⟨h1, fun ha => ?_⟩
    have hle := h.le x k
    have : M x k ≠ 1 := fun e => h2 e ha
    omega
  refine ⟨fun x j => ?_, fun x y j hx hy h1 h2 => ?_⟩
  · unfold takeM
    split
    · split
      · omega
      · split
        · omega
        · exact h.le _ _
    · exact h.le _ _
  · by_cases hj : j = k
    · subst hj
      unfold takeM at h1 h2
      by_cases hxw : x = who
      · by_cases hyw : y = who
        · rw [hxw, hyw]
        · exfalso
          rw [if_neg (fun h => hyw h.1)] at h2
          rw [if_pos ⟨hxw, rfl⟩] at h1
          have := hn y hy hyw
          cases al with
          | true => exact h2 (this.2 rfl)
          | false =>
            simp only [Bool.false_eq_true, if_false] at h1
            split at h1
            · omega
            · exact hyw (h.one who y j hw hy h1 h2).symm
      · exfalso
        rw [if_neg (fun h => hxw h.1)] at h1
        exact (hn x hx hxw).1 h1
    · unfold takeM at h1 h2
      rw [if_neg (fun h => hj h.2)] at h1 h2
      exact h.one x y j hx hy h1 h2
/-- what the law itself reckons: those against one -/
def wantB (M : Nat → Nat → Nat) (k : Nat) (who : Int) (b : Bool) (x : Nat) : Bool := decide (M x k ≠ 0) && decide ((x : Int) ≠ who) && b
def wantK (M : Nat → Nat → Nat) (k : Nat) (who : Int) (b : Bool) (n : Nat) : List Nat := (List.range n).filter (wantB M k who b)
theorem wantK_succ (M : Nat → Nat → Nat) (k : Nat) (who : Int) (b : Bool) (n : Nat) : wantK M k who b (n + 1) = wantK M k who b n ++ if wantB M k who b n then [n] else [] := by
  unfold wantK
  rw [List.range_succ, List.filter_append]
  congr 1
  cases h : wantB M k who b n <;> simp [h]
theorem wantK_len (M : Nat → Nat → Nat) (k : Nat) (who : Int) (b : Bool) (n : Nat) : (wantK M k who b n).length ≤ n := Nat.le_trans (List.length_filter_le _ _) (by simp)
theorem want_ag {M : Nat → Nat → Nat} (h : Inv M) (k who : Nat) (al : Bool) : wantK M k (who : Int) (al || oneK (fun x => M x k) 16) 16 = agK (fun x => M x k) who al 16 := by
  unfold wantK agK
  refine List.filter_congr fun x hx => ?_
  have hx16 := List.mem_range.1 hx
  unfold wantB isAg
  have hle := h.le x k
  by_cases hxw : x = who
  · simp [hxw]
  · have h1 : (x : Int) ≠ (who : Int) := by omega
    simp only [decide_eq_true h1, decide_eq_true hxw, Bool.and_true, Bool.true_and, ne_eq, hxw, not_false_eq_true, h1, decide_true]
    cases al with
    | true =>
      simp only [Bool.true_or, Bool.and_true]
      rw [Bool.eq_iff_iff]; simp; omega
    | false =>
      simp only [Bool.false_or, Bool.and_false, Bool.or_false]
      cases ho : oneK (fun x => M x k) 16 with
      | true =>
        unfold oneK at ho
        rw [List.any_eq_true] at ho
        obtain ⟨y, hy, hy2⟩ := ho
        have hy2 : M y k = 2 := by simpa using hy2
        rw [Bool.and_true, Bool.eq_iff_iff]
        simp only [decide_eq_true_eq]
        constructor
        · intro h0
          have := h.one y x k (List.mem_range.1 hy) hx16 hy2 h0
          rw [← this]; exact hy2
        · intro h2; omega
      | false =>
        unfold oneK at ho
        rw [List.any_eq_false] at ho
        have := ho x hx
        simp only [decide_eq_true_eq] at this
        rw [Bool.and_false]
        exact (decide_eq_false this).symm
/-- the table of the law -/
def mat6 (M : Nat → Nat → Nat) : List Value := (List.range 96).map fun t => Value.int .i64 (M (t / 6) (t % 6) : Int)
theorem mat6_len (M : Nat → Nat → Nat) : (mat6 M).length = 96 := by simp [mat6]
theorem mat6_at (M : Nat → Nat → Nat) {x k : Nat} (hx : x < 16) (hk : k < 6) : (mat6 M)[x * 6 + k]? = some (.int .i64 (M x k : Int)) := by
  have : x * 6 + k < 96 := by omega
  unfold mat6
  rw [List.getElem?_map, List.getElem?_range this, Option.map_some, show (x * 6 + k) / 6 = x by omega, show (x * 6 + k) % 6 = k by omega]
theorem mat6_set (M : Nat → Nat → Nat) {x k : Nat} (hx : x < 16) (hk : k < 6) (v : Nat) (z : Int) (hz : z = (v : Int)) : (mat6 M).toArray.setIfInBounds (x * 6 + k) (.int .i64 z) = (mat6 fun a c => if a = x ∧ c = k then v else M a c).toArray := by
  subst hz
  apply Array.ext_getElem?; intro t
  rw [Array.getElem?_setIfInBounds]
  by_cases ht : t < 96
  · have e := mat6_at M (x := t / 6) (k := t % 6) (by omega) (by omega)
    have e2 := mat6_at (fun a c => if a = x ∧ c = k then v else M a c) (x := t / 6) (k := t % 6) (by omega) (by omega)
    rw [show t / 6 * 6 + t % 6 = t by omega] at e e2
    simp only [List.getElem?_toArray, List.size_toArray, mat6_len]
    rw [e, e2]
    by_cases h : x * 6 + k = t
    · have h1 : t / 6 = x := by omega
      have h2 : t % 6 = k := by omega
      rw [if_pos h, if_pos (by omega)]
      simp [h1, h2]
    · rw [if_neg h]
      have : ¬ (t / 6 = x ∧ t % 6 = k) := by omega
      simp only [this, if_false]
  · have n1 : (mat6 M).toArray[t]? = none := Array.getElem?_eq_none (by simp [mat6_len]; omega)
    have n2 : (mat6 fun a c => if a = x ∧ c = k then v else M a c).toArray[t]? = none := Array.getElem?_eq_none (by simp [mat6_len]; omega)
    rw [n1, n2, if_neg (by omega)]
theorem mat6_ext {M M' : Nat → Nat → Nat} (h : ∀ x k, x < 16 → k < 6 → M x k = M' x k) : mat6 M = mat6 M' := by
  unfold mat6
  refine List.map_congr_left fun t ht => ?_
  rw [List.mem_range] at ht
  rw [h _ _ (by omega) (by omega)]
theorem mat6_one (M : Nat → Nat → Nat) : (mat6 M).toArray.all (·.oneCell') = true := by
  rw [Array.all_eq_true_iff_forall_mem]
  intro v hv
  obtain ⟨x, _, rfl⟩ := List.mem_map.1 (show v ∈ (List.range 96).map fun t => Value.int .i64 (M (t / 6) (t % 6) : Int) by simpa [mat6] using hv)
  rfl
theorem filtN_succ (p : Nat → Bool) (k : Nat) : (List.range (k + 1)).filter p = (List.range k).filter p ++ if p k then [k] else [] := by
  rw [List.range_succ, List.filter_append]
  congr 1
  cases h : p k <;> simp [h]
theorem filtN_at (p : Nat → Bool) : ∀ (n k : Nat), k < n → p k = true → ((List.range n).filter p)[((List.range k).filter p).length]? = some k
  | 0, k, h, _ => by omega
  | n + 1, k, h, hp => by
    rw [filtN_succ]
    by_cases hk : k < n
    · have ih := filtN_at p n k hk hp
      rw [List.getElem?_append_left (List.getElem?_eq_some_iff.1 ih).1]; exact ih
    · obtain rfl : k = n := by omega
      rw [List.getElem?_append_right (Nat.le_refl _), Nat.sub_self, hp]; rfl
theorem whoK_at (f : Nat → Nat) {x : Nat} (hx : x < 16) (h : f x ≠ 0) : (whoK f 16)[(whoK f x).length]? = some x := filtN_at _ 16 x hx (by simpa using h)
theorem whoK_any (f : Nat → Nat) : ∀ n, (0 < (whoK f n).length) = ((List.range n).any (fun x => decide (f x ≠ 0)) = true) := by
  intro n
  apply propext
  rw [List.length_pos_iff_exists_mem, List.any_eq_true]
  unfold whoK
  constructor
  · rintro ⟨x, hx⟩
    obtain ⟨h1, h2⟩ := List.mem_filter.1 hx
    exact ⟨x, h1, h2⟩
  · rintro ⟨x, h1, h2⟩
    exact ⟨x, List.mem_filter.2 ⟨h1, h2⟩⟩
theorem one_len {M : Nat → Nat → Nat} (h : Inv M) (k : Nat) (ho : oneK (fun x => M x k) 16 = true) : (whoK (fun x => M x k) 16).length ≤ 1 := by
  unfold oneK at ho
  rw [List.any_eq_true] at ho
  obtain ⟨y, hy, hy2⟩ := ho
  have hy2 : M y k = 2 := by simpa using hy2
  have hle := len_le (whoK (fun x => M x k) 16) [y] ((List.nodup_range (n := 16)).filter _) (fun x hx => by
    obtain ⟨h1, h2⟩ := List.mem_filter.1 hx
    have := h.one y x k (List.mem_range.1 hy) (List.mem_range.1 h1) hy2 (by simpa using h2)
    simp [this])
  simpa using hle
end Go.Proofs.Ytmeaidkbkelclab.lock
