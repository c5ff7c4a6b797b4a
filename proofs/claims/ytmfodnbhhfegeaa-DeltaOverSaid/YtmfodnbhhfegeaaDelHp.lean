/- Delta's methods, as a caller that holds one has them; awake. No condition but the rising keys. -/
import Derived.Test.YtmfodnbhhfegeaaDelLaw
namespace Go.Proofs.Ytmfodnbhhfegeaa.delta
open Go.RowKit
attribute [local go_sem ↓] Go.wp_at_zero Go.wp_at_succ
set_option linter.unusedVariables false
set_option maxRecDepth 100000

theorem hp_get {w W : World} {X : List Nat} {rs : List Rs} (h : Hp w X rs W) {i : Nat} {r : Rs} (hi : rs[i]? = some r) : ∃ fp, r.holds W fp := by
  obtain ⟨fps, h1, _⟩ := h
  obtain ⟨fp, _, hr⟩ := h1.get hi
  exact ⟨fp, hr⟩
theorem bx_uniq {W : World} {t e : TypeId} {size d n : Nat} {xs : List Value} {fp fp' : List Nat} (h : (Rs.bxrow t e size d n xs).holds W fp) (h' : (Rs.bxrow t e size d n xs).holds W fp') : fp = fp' := by
  obtain ⟨v, h1, h2, rfl, h4⟩ := h
  obtain ⟨v', h1', h2', rfl, h4'⟩ := h'
  rw [h1] at h1'
  injection h1' with h1'
  injection h1' with h5 _ _
  injection h5 with h5
  injection h5 with h5 _
  rw [h5]
/-- changes that lie in the box d -/
def del (d : Nat) (L : List Ch) : Rs := Rs.bxrow 144 93 3 d L.length (chC L)
theorem hp_bx {w W : World} {X : List Nat} {rs : List Rs} (h : Hp w X rs W) {i d : Nat} {L : List Ch} (hi : rs[i]? = some (del d L)) : ∃ v, W.heap[d]? = some (.cells #[v] 144 (0, 0)) ∧ W.ownsRow 0 93 3 v L.length (chC L) := by
  obtain ⟨fp, v, h1, h2, _⟩ := hp_get h hi
  exact ⟨v, h1, h2⟩
section
variable {w W : World} {X : List Nat} {rs : List Rs} {i d : Nat} {L : List Ch}
theorem put_hp (h : Hp w X rs W) (hi : rs[i]? = some (del d L)) (c : Ch) (hs : Srt L) (hn : L.length ≤ 90000) (hk : eqB c.k ⟨#[]⟩ = false) :
    Calls Try.prog 49 #[.pointer (some ⟨d, 0, none⟩), c.a] W fun e w' => e = .returned (.tuple #[]) ∧ Hp w X (rs.set i (del d (putL c L))) w' := by
  obtain ⟨fp, hr⟩ := hp_get h hi
  refine (put_any d L c W fp hr hs hn hk).mono ?_
  rintro e w' ⟨rfl, h1⟩
  exact ⟨rfl, h.turn hi fun fp' hr' => by rw [bx_uniq hr' hr]; exact h1⟩
theorem clear_hp (h : Hp w X rs W) (hi : rs[i]? = some (del d L)) : Calls Try.prog 58 #[.pointer (some ⟨d, 0, none⟩)] W fun e w' => e = .returned (.tuple #[]) ∧ Hp w X (rs.set i (del d [])) w' := by
  obtain ⟨fp, hr⟩ := hp_get h hi
  refine (clear_any d L.length (chC L) W fp hr).mono ?_
  rintro e w' ⟨rfl, h1⟩
  exact ⟨rfl, h.turn hi fun fp' hr' => by rw [bx_uniq hr' hr]; exact h1⟩
theorem len_hp (h : Hp w X rs W) (hi : rs[i]? = some (del d L)) : Calls Try.prog 52 #[.pointer (some ⟨d, 0, none⟩)] W fun e w' => e = .returned (.int .i64 (L.length : Int)) ∧ w' = W := by
  obtain ⟨v, h1, h2⟩ := hp_bx h hi
  obtain ⟨ad, cp, rfl⟩ := rowShape h2
  exact len_any d L.length cp ad W h1
theorem get_hp (h : Hp w X rs W) (hi : rs[i]? = some (del d L)) (key : ByteArray) (hs : Srt L) (hn : L.length ≤ 100000) :
    Calls Try.prog 51 #[.pointer (some ⟨d, 0, none⟩), .string key] W fun e w' => e = .returned (.tuple #[(getC key L).a, .bool (atB key L)]) ∧ Hp w X rs w' := by
  obtain ⟨v, h1, h2⟩ := hp_bx h hi
  exact (get_any d key v L W h1 h2 hs hn).mono fun e w' ⟨he, hb⟩ => ⟨he, h.below hb⟩
theorem row_hp (h : Hp w X rs W) {M : List Ch} {v' : Value} {w' : World} (hr : RowOf W M v' w') : (∃ ad cp, v' = .slice ad M.length cp) ∧ Hp w X (.row 93 3 v' M.length (chC M) :: rs) w' :=
  ⟨hr.1, h.take hr.2⟩
theorem all_hp (h : Hp w X rs W) (hi : rs[i]? = some (del d L)) (hs : Srt L) (hn : L.length ≤ 100000) :
    Calls Try.prog 55 #[.pointer (some ⟨d, 0, none⟩)] W fun e w' => ∃ v', e = .returned v' ∧ (∃ ad cp, v' = .slice ad L.length cp) ∧ Hp w X (.row 93 3 v' L.length (chC L) :: rs) w' := by
  obtain ⟨v, h1, h2⟩ := hp_bx h hi
  exact (all_any d v L W h1 h2 hs hn).mono fun e w' ⟨v', he, hr⟩ => ⟨v', he, row_hp h hr⟩
theorem range_hp (h : Hp w X rs W) (hi : rs[i]? = some (del d L)) (f t : ByteArray) (hs : Srt L) (hn : L.length ≤ 100000) :
    Calls Try.prog 56 #[.pointer (some ⟨d, 0, none⟩), .string f, .string t] W fun e w' => ∃ v', e = .returned v' ∧ (∃ ad cp, v' = .slice ad (rangeL f t L).length cp) ∧ Hp w X (.row 93 3 v' (rangeL f t L).length (chC (rangeL f t L)) :: rs) w' := by
  obtain ⟨v, h1, h2⟩ := hp_bx h hi
  exact (range_any d f t v L W h1 h2 hs hn).mono fun e w' ⟨v', he, hr⟩ => ⟨v', he, row_hp h hr⟩
theorem dclone_hp (h : Hp w X rs W) (hi : rs[i]? = some (del d L)) (hs : Srt L) (hn : L.length ≤ 100000) :
    Calls Try.prog 57 #[.pointer (some ⟨d, 0, none⟩)] W fun e w' => ∃ k, e = .returned (.pointer (some ⟨k, 0, none⟩)) ∧ Hp w X (del k L :: rs) w' := by
  obtain ⟨v, h1, h2⟩ := hp_bx h hi
  exact (dclone_any d v L W h1 h2 hs hn).mono fun e w' ⟨k, he, _, hr⟩ => ⟨k, he, h.take hr⟩
end
theorem new_hp {w W : World} {X : List Nat} {rs : List Rs} (h : Hp w X rs W) : Calls Try.prog 47 #[] W fun e w' => ∃ d, e = .returned (.pointer (some ⟨d, 0, none⟩)) ∧ Hp w X (del d [] :: rs) w' :=
  (new_any W).mono fun e w' ⟨he, hr⟩ => ⟨_, he, h.take hr⟩
def kA : ByteArray := ⟨#[97]⟩
set_option maxHeartbeats 1000000 in
theorem awake_any (w : World) : Calls Try.prog 53 #[] w fun e w' => e = .returned (.bool true) ∧ Below w.heap.size w w' := by
  have hne : eqB kA ⟨#[]⟩ = false := by unfold eqB kA; rw [ByteArray.toList_eq, ByteArray.toList_eq]; rfl
  have e1 : putL ⟨kA, ⟨#[49]⟩, false⟩ [] = [⟨kA, ⟨#[49]⟩, false⟩] := rfl
  have e2 : putL ⟨kA, ⟨#[50]⟩, false⟩ [⟨kA, ⟨#[49]⟩, false⟩] = [⟨kA, ⟨#[50]⟩, false⟩] := by simp [putL, lt_irrefl, eqB_self]
  have e3 : getC kA [⟨kA, ⟨#[50]⟩, false⟩] = ⟨kA, ⟨#[50]⟩, false⟩ := by simp [getC, atB, pos, lt_irrefl, eqB_self]
  have e4 : atB kA [⟨kA, ⟨#[50]⟩, false⟩] = true := by simp [atB, pos, lt_irrefl, eqB_self]
  have c1 : ∀ (W : World) (d : Nat) (h : Hp w [] [del d []] W), Calls Try.prog 49 #[.pointer (some ⟨d, 0, none⟩), .agg #[.string ⟨#[97]⟩, .string ⟨#[49]⟩, .bool false]] W fun e w' => e = .returned (.tuple #[]) ∧ Hp w [] [del d [⟨kA, ⟨#[49]⟩, false⟩]] w' := fun _ _ h => by
    have := put_hp h (i := 0) rfl ⟨kA, ⟨#[49]⟩, false⟩ (by simp [Srt]) (by simp) hne
    rw [e1] at this; exact this
  have c2 : ∀ (W : World) (d : Nat) (h : Hp w [] [del d [⟨kA, ⟨#[49]⟩, false⟩]] W), Calls Try.prog 49 #[.pointer (some ⟨d, 0, none⟩), .agg #[.string ⟨#[97]⟩, .string ⟨#[50]⟩, .bool false]] W fun e w' => e = .returned (.tuple #[]) ∧ Hp w [] [del d [⟨kA, ⟨#[50]⟩, false⟩]] w' := fun _ _ h => by
    have := put_hp h (i := 0) rfl ⟨kA, ⟨#[50]⟩, false⟩ (by simp [Srt]) (by simp) hne
    rw [e2] at this; exact this
  have c3 : ∀ (W : World) (d : Nat) (h : Hp w [] [del d [⟨kA, ⟨#[50]⟩, false⟩]] W), Calls Try.prog 51 #[.pointer (some ⟨d, 0, none⟩), .string ⟨#[97]⟩] W fun e w' => e = .returned (.tuple #[.agg #[.string ⟨#[97]⟩, .string ⟨#[50]⟩, .bool false], .bool true]) ∧ Hp w [] [del d [⟨kA, ⟨#[50]⟩, false⟩]] w' := fun _ _ h => by
    have := get_hp h (i := 0) rfl kA (by simp [Srt]) (by simp)
    rw [e3, e4] at this; exact this
  have c4 : ∀ (W : World) (d : Nat) (rs : List Rs) (h : Hp w [] rs W) (hi : rs[1]? = some (del d [⟨kA, ⟨#[50]⟩, false⟩])), Calls Try.prog 52 #[.pointer (some ⟨d, 0, none⟩)] W fun e w' => e = .returned (.int .i64 1) ∧ w' = W := fun _ _ _ h hi => len_hp h hi
  have c0 := Lib.hid (new_hp (Hp.none_ w []))
  replace c1 := Lib.hid c1; replace c2 := Lib.hid c2; replace c3 := Lib.hid c3; replace c4 := Lib.hid c4
  clear e1 e2 e3 e4 hne
  go_enter Try.func53, Try.ntmps53
  go_wp2_with (first
    | (go_at_call 47; (with_reducible refine (c0.out).mono ?_); rintro e w1 ⟨d, rfl, h1⟩; have hp := Lib.hid h1; clear h1)
    | (go_at_call 49; (with_reducible refine (c1.out _ _ hp.out).mono ?_); rintro e w1 ⟨rfl, h1⟩; replace hp := Lib.hid h1; clear h1)
    | (go_at_call 49; (with_reducible refine (c2.out _ _ hp.out).mono ?_); rintro e w1 ⟨rfl, h1⟩; replace hp := Lib.hid h1; clear h1)
    | (go_at_call 51; (with_reducible refine (c3.out _ _ hp.out).mono ?_); rintro e w1 ⟨rfl, h1⟩; replace hp := Lib.hid (h1.alloc #[.string ⟨#[97]⟩, .string ⟨#[50]⟩, .bool false] 93); clear h1)
    | (go_at_call 52; (with_reducible refine (c4.out _ _ _ hp.out rfl).mono ?_); rintro e w1 ⟨rfl, rfl⟩))
  go_ret
  exact ⟨rfl, hp.out.bel⟩
end Go.Proofs.Ytmfodnbhhfegeaa.delta
