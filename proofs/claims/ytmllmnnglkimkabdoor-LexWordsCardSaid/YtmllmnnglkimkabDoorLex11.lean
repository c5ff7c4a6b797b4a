/- The words of questions, as the document has them (package lodestoneref32): marks. No condition. -/
import Derived.Test.YtmllmnnglkimkabDoorLex10
namespace Go.Proofs.YtmllmnnglkimkabDoor.lex
open Go.RowKit
attribute [local go_sem ↓] Go.wp_at_zero Go.wp_at_succ
attribute [local go_sem] str_size
set_option linter.unusedVariables false
set_option maxRecDepth 100000

def twoB (c d : UInt8) : Bool := (45 == c && 62 == d) || (60 == c && 45 == d) || (33 == c && 61 == d) || (60 == c && 61 == d) || (62 == c && 61 == d)
def oneB (c : UInt8) : Bool := (40 : UInt8) == c || (41 : UInt8) == c || (91 : UInt8) == c || (93 : UInt8) == c || (123 : UInt8) == c || (125 : UInt8) == c || (58 : UInt8) == c || (44 : UInt8) == c || (46 : UInt8) == c || (45 : UInt8) == c || (60 : UInt8) == c || (62 : UInt8) == c || (61 : UInt8) == c
theorem pre2 (a b c d : UInt8) (r : List UInt8) : [a, b].isPrefixOf (c :: d :: r) = (a == c && b == d) := by simp [List.isPrefixOf]
theorem pre1 (a c : UInt8) (r : List UInt8) : [a].isPrefixOf (c :: r) = (a == c) := by simp [List.isPrefixOf]
theorem pre0 (a b c : UInt8) : [a, b].isPrefixOf [c] = false := by simp [List.isPrefixOf]
theorem marks_head (c d : UInt8) (r : List UInt8) : markN (c :: d :: r) = if twoB c d then 2 else if oneB c then 1 else 0 := by
  unfold markN marksL twoB oneB
  cases b0 : (((45 : UInt8) == c) && ((62 : UInt8) == d))
  rotate_left
  · rw [markF_yes _ _ _ (by rw [pre2]; exact b0)]; simp
  rw [markF_no _ _ _ (by rw [pre2]; exact b0)]
  cases b1 : (((60 : UInt8) == c) && ((45 : UInt8) == d))
  rotate_left
  · rw [markF_yes _ _ _ (by rw [pre2]; exact b1)]; simp
  rw [markF_no _ _ _ (by rw [pre2]; exact b1)]
  cases b2 : (((33 : UInt8) == c) && ((61 : UInt8) == d))
  rotate_left
  · rw [markF_yes _ _ _ (by rw [pre2]; exact b2)]; simp
  rw [markF_no _ _ _ (by rw [pre2]; exact b2)]
  cases b3 : (((60 : UInt8) == c) && ((61 : UInt8) == d))
  rotate_left
  · rw [markF_yes _ _ _ (by rw [pre2]; exact b3)]; simp
  rw [markF_no _ _ _ (by rw [pre2]; exact b3)]
  cases b4 : (((62 : UInt8) == c) && ((61 : UInt8) == d))
  rotate_left
  · rw [markF_yes _ _ _ (by rw [pre2]; exact b4)]; simp
  rw [markF_no _ _ _ (by rw [pre2]; exact b4)]
  cases a0 : ((40 : UInt8) == c)
  rotate_left
  · rw [markF_yes _ _ _ (by rw [pre1]; exact a0)]; simp
  rw [markF_no _ _ _ (by rw [pre1]; exact a0)]
  cases a1 : ((41 : UInt8) == c)
  rotate_left
  · rw [markF_yes _ _ _ (by rw [pre1]; exact a1)]; simp
  rw [markF_no _ _ _ (by rw [pre1]; exact a1)]
  cases a2 : ((91 : UInt8) == c)
  rotate_left
  · rw [markF_yes _ _ _ (by rw [pre1]; exact a2)]; simp
  rw [markF_no _ _ _ (by rw [pre1]; exact a2)]
  cases a3 : ((93 : UInt8) == c)
  rotate_left
  · rw [markF_yes _ _ _ (by rw [pre1]; exact a3)]; simp
  rw [markF_no _ _ _ (by rw [pre1]; exact a3)]
  cases a4 : ((123 : UInt8) == c)
  rotate_left
  · rw [markF_yes _ _ _ (by rw [pre1]; exact a4)]; simp
  rw [markF_no _ _ _ (by rw [pre1]; exact a4)]
  cases a5 : ((125 : UInt8) == c)
  rotate_left
  · rw [markF_yes _ _ _ (by rw [pre1]; exact a5)]; simp
  rw [markF_no _ _ _ (by rw [pre1]; exact a5)]
  cases a6 : ((58 : UInt8) == c)
  rotate_left
  · rw [markF_yes _ _ _ (by rw [pre1]; exact a6)]; simp
  rw [markF_no _ _ _ (by rw [pre1]; exact a6)]
  cases a7 : ((44 : UInt8) == c)
  rotate_left
  · rw [markF_yes _ _ _ (by rw [pre1]; exact a7)]; simp
  rw [markF_no _ _ _ (by rw [pre1]; exact a7)]
  cases a8 : ((46 : UInt8) == c)
  rotate_left
  · rw [markF_yes _ _ _ (by rw [pre1]; exact a8)]; simp
  rw [markF_no _ _ _ (by rw [pre1]; exact a8)]
  cases a9 : ((45 : UInt8) == c)
  rotate_left
  · rw [markF_yes _ _ _ (by rw [pre1]; exact a9)]; simp
  rw [markF_no _ _ _ (by rw [pre1]; exact a9)]
  cases a10 : ((60 : UInt8) == c)
  rotate_left
  · rw [markF_yes _ _ _ (by rw [pre1]; exact a10)]; simp
  rw [markF_no _ _ _ (by rw [pre1]; exact a10)]
  cases a11 : ((62 : UInt8) == c)
  rotate_left
  · rw [markF_yes _ _ _ (by rw [pre1]; exact a11)]; simp
  rw [markF_no _ _ _ (by rw [pre1]; exact a11)]
  cases a12 : ((61 : UInt8) == c)
  rotate_left
  · rw [markF_yes _ _ _ (by rw [pre1]; exact a12)]; simp
  rw [markF_no _ _ _ (by rw [pre1]; exact a12)]
  simp [markF]
theorem marks_last (c : UInt8) : markN [c] = if oneB c then 1 else 0 := by
  unfold markN marksL oneB
  rw [markF_no _ _ _ (pre0 _ _ _), markF_no _ _ _ (pre0 _ _ _), markF_no _ _ _ (pre0 _ _ _), markF_no _ _ _ (pre0 _ _ _), markF_no _ _ _ (pre0 _ _ _)]
  cases a0 : ((40 : UInt8) == c)
  rotate_left
  · rw [markF_yes _ _ _ (by rw [pre1]; exact a0)]; simp
  rw [markF_no _ _ _ (by rw [pre1]; exact a0)]
  cases a1 : ((41 : UInt8) == c)
  rotate_left
  · rw [markF_yes _ _ _ (by rw [pre1]; exact a1)]; simp
  rw [markF_no _ _ _ (by rw [pre1]; exact a1)]
  cases a2 : ((91 : UInt8) == c)
  rotate_left
  · rw [markF_yes _ _ _ (by rw [pre1]; exact a2)]; simp
  rw [markF_no _ _ _ (by rw [pre1]; exact a2)]
  cases a3 : ((93 : UInt8) == c)
  rotate_left
  · rw [markF_yes _ _ _ (by rw [pre1]; exact a3)]; simp
  rw [markF_no _ _ _ (by rw [pre1]; exact a3)]
  cases a4 : ((123 : UInt8) == c)
  rotate_left
  · rw [markF_yes _ _ _ (by rw [pre1]; exact a4)]; simp
  rw [markF_no _ _ _ (by rw [pre1]; exact a4)]
  cases a5 : ((125 : UInt8) == c)
  rotate_left
  · rw [markF_yes _ _ _ (by rw [pre1]; exact a5)]; simp
  rw [markF_no _ _ _ (by rw [pre1]; exact a5)]
  cases a6 : ((58 : UInt8) == c)
  rotate_left
  · rw [markF_yes _ _ _ (by rw [pre1]; exact a6)]; simp
  rw [markF_no _ _ _ (by rw [pre1]; exact a6)]
  cases a7 : ((44 : UInt8) == c)
  rotate_left
  · rw [markF_yes _ _ _ (by rw [pre1]; exact a7)]; simp
  rw [markF_no _ _ _ (by rw [pre1]; exact a7)]
  cases a8 : ((46 : UInt8) == c)
  rotate_left
  · rw [markF_yes _ _ _ (by rw [pre1]; exact a8)]; simp
  rw [markF_no _ _ _ (by rw [pre1]; exact a8)]
  cases a9 : ((45 : UInt8) == c)
  rotate_left
  · rw [markF_yes _ _ _ (by rw [pre1]; exact a9)]; simp
  rw [markF_no _ _ _ (by rw [pre1]; exact a9)]
  cases a10 : ((60 : UInt8) == c)
  rotate_left
  · rw [markF_yes _ _ _ (by rw [pre1]; exact a10)]; simp
  rw [markF_no _ _ _ (by rw [pre1]; exact a10)]
  cases a11 : ((62 : UInt8) == c)
  rotate_left
  · rw [markF_yes _ _ _ (by rw [pre1]; exact a11)]; simp
  rw [markF_no _ _ _ (by rw [pre1]; exact a11)]
  cases a12 : ((61 : UInt8) == c)
  rotate_left
  · rw [markF_yes _ _ _ (by rw [pre1]; exact a12)]; simp
  rw [markF_no _ _ _ (by rw [pre1]; exact a12)]
  simp [markF]
theorem one_yes (c : UInt8) (h : oneB c = true) : c.toNat = 40 ∨ c.toNat = 41 ∨ c.toNat = 91 ∨ c.toNat = 93 ∨ c.toNat = 123 ∨ c.toNat = 125 ∨ c.toNat = 58 ∨ c.toNat = 44 ∨ c.toNat = 46 ∨ c.toNat = 45 ∨ c.toNat = 60 ∨ c.toNat = 62 ∨ c.toNat = 61 := by
  unfold oneB at h
  simp only [Bool.or_eq_true, beq_iff_eq] at h
  have k : ∀ d : UInt8, d = c → c.toNat = d.toNat := fun d h => by rw [h]
  rcases h with ((((((((((((h | h) | h) | h) | h) | h) | h) | h) | h) | h) | h) | h) | h) <;> (have := k _ h; simp at this; omega)
theorem one_no (c : UInt8) (h : oneB c = false) : c.toNat ≠ 40 ∧ c.toNat ≠ 41 ∧ c.toNat ≠ 91 ∧ c.toNat ≠ 93 ∧ c.toNat ≠ 123 ∧ c.toNat ≠ 125 ∧ c.toNat ≠ 58 ∧ c.toNat ≠ 44 ∧ c.toNat ≠ 46 ∧ c.toNat ≠ 45 ∧ c.toNat ≠ 60 ∧ c.toNat ≠ 62 ∧ c.toNat ≠ 61 := by
  unfold oneB at h
  simp only [Bool.or_eq_false_iff, beq_eq_false_iff_ne] at h
  have k : ∀ d : UInt8, d ≠ c → c.toNat ≠ d.toNat := fun d h e => h (UInt8.toNat_inj.1 e.symm)
  obtain ⟨⟨⟨⟨⟨⟨⟨⟨⟨⟨⟨⟨h1, h2⟩, h3⟩, h4⟩, h5⟩, h6⟩, h7⟩, h8⟩, h9⟩, h10⟩, h11⟩, h12⟩, h13⟩ := h
  exact ⟨k _ h1, k _ h2, k _ h3, k _ h4, k _ h5, k _ h6, k _ h7, k _ h8, k _ h9, k _ h10, k _ h11, k _ h12, k _ h13⟩
theorem two_yes (c d : UInt8) (h : twoB c d = true) : (c = 45 ∧ d = 62) ∨ (c = 60 ∧ d = 45) ∨ (c = 33 ∧ d = 61) ∨ (c = 60 ∧ d = 61) ∨ (c = 62 ∧ d = 61) := by
  unfold twoB at h
  simp only [Bool.or_eq_true, Bool.and_eq_true, beq_iff_eq] at h
  rcases h with (((h | h) | h) | h) | h <;> simp [← h.1, ← h.2]
theorem two_no (c d : UInt8) (h : twoB c d = false) : ∀ a b : UInt8, ((a = 45 ∧ b = 62) ∨ (a = 60 ∧ b = 45) ∨ (a = 33 ∧ b = 61) ∨ (a = 60 ∧ b = 61) ∨ (a = 62 ∧ b = 61)) → ([c, d] == [a, b]) = false := by
  intro a b hab
  cases h2 : ([c, d] == [a, b])
  · rfl
  · simp at h2
    obtain ⟨rfl, rfl⟩ := h2
    unfold twoB at h
    rcases hab with ⟨rfl, rfl⟩ | ⟨rfl, rfl⟩ | ⟨rfl, rfl⟩ | ⟨rfl, rfl⟩ | ⟨rfl, rfl⟩ <;> simp at h
set_option maxHeartbeats 8000000 in
theorem rmark_any (l : List UInt8) (p : Nat) (hp : p < l.length) (hl : l.length ≤ 100000) (w : World) :
    Calls Tryd.prog 52 #[.string (str l), .int .i64 (p : Int)] w fun e w' => e = .returned (.int .i64 (markN (l.drop p) : Int)) ∧ w = w' := by
  obtain ⟨L, hL⟩ : ∃ L, L = l.length := ⟨_, rfl⟩
  have hl2 : L ≤ 100000 := by omega
  have hp3 : p < L := by omega
  have hsz : (str l).size = L := by rw [str_size, hL]
  obtain ⟨c, hc⟩ : ∃ c, l[p]? = some c := ⟨_, List.getElem?_eq_getElem hp⟩
  have hd := drop_at l p c hc
  have i0 : (0 : Int) ≤ (p : Int) := by omega
  have i1 : (p : Int) < (L : Int) := by omega
  have i3 : IntKind.i64.wrap ((p : Int) + 1) = (p : Int) + 1 := by rw [IntKind.wrap_i64]; omega
  have i4 : IntKind.i64.wrap ((p : Int) + 2) = (p : Int) + 2 := by rw [IntKind.wrap_i64]; omega
  by_cases hend : p + 1 = L
  · have hd2 : l.drop (p + 1) = [] := List.drop_eq_nil_of_le (by omega)
    rw [hd, hd2, marks_last]
    have j1 : ¬ (p : Int) + 1 < (L : Int) := by omega
    obtain ⟨m, hm⟩ : ∃ m, m = c.toNat := ⟨_, rfl⟩
    have hg : ∀ h : p < (str l).size, (((str l)[p]'h).toNat : Int) = (m : Int) := fun h => by rw [at_str l p c hc h, hm]
    by_cases ho : oneB c = true
    · rw [if_pos ho]
      have h13 := one_yes c ho
      rw [← hm] at h13
      clear ho hd hd2 hc hend hp3 hp hl hl2 hL hm
      rcases h13 with rfl | rfl | rfl | rfl | rfl | rfl | rfl | rfl | rfl | rfl | rfl | rfl | rfl
      all_goals (
        go_enter Tryd.func52, Tryd.ntmps52
        go_wp2
        go_ret
        exact ⟨rfl, rfl⟩)
    · rw [if_neg ho]
      have ho2 : oneB c = false := by simpa using ho
      have h13 := one_no c ho2
      rw [← hm] at h13
      obtain ⟨n1, n2, n3, n4, n5, n6, n7, n8, n9, n10, n11, n12, n13⟩ := h13
      have t1 : ((m : Int) == 40) = false := by simp; omega
      have t2 : ((m : Int) == 41) = false := by simp; omega
      have t3 : ((m : Int) == 91) = false := by simp; omega
      have t4 : ((m : Int) == 93) = false := by simp; omega
      have t5 : ((m : Int) == 123) = false := by simp; omega
      have t6 : ((m : Int) == 125) = false := by simp; omega
      have t7 : ((m : Int) == 58) = false := by simp; omega
      have t8 : ((m : Int) == 44) = false := by simp; omega
      have t9 : ((m : Int) == 46) = false := by simp; omega
      have t10 : ((m : Int) == 45) = false := by simp; omega
      have t11 : ((m : Int) == 60) = false := by simp; omega
      have t12 : ((m : Int) == 62) = false := by simp; omega
      have t13 : ((m : Int) == 61) = false := by simp; omega
      clear ho ho2 hd hd2 hc hend hp3 hp hl hl2 hL hm n1 n2 n3 n4 n5 n6 n7 n8 n9 n10 n11 n12 n13
      go_enter Tryd.func52, Tryd.ntmps52
      go_wp2
      go_ret
      exact ⟨rfl, rfl⟩
  · obtain ⟨d, hc2⟩ : ∃ d, l[p + 1]? = some d := ⟨_, List.getElem?_eq_getElem (by omega)⟩
    have hd2 := drop_at l (p + 1) d hc2
    have j1 : (p : Int) + 1 < (L : Int) := by omega
    have j2 : (p : Int) + 2 ≤ (L : Int) := by omega
    have hcut : (str l).extract p (p + 2) = str [c, d] := by rw [cut_extract, show p + 2 - p = 2 by omega, hd, hd2]; rfl
    rw [hd, hd2, marks_head]
    by_cases ht : twoB c d = true
    · rw [if_pos ht]
      have h5 := two_yes c d ht
      have hcut2 : ∀ a b : UInt8, c = a ∧ d = b → (str l).extract p (p + 2) = (⟨#[a, b]⟩ : ByteArray) := fun a b h => by rw [hcut, h.1, h.2]; rfl
      clear ht hd hd2 hc hc2 hend hp3 hp hl hl2 hL hcut
      rcases h5 with h | h | h | h | h
      all_goals (
        have hcut3 := hcut2 _ _ h
        clear hcut2 h
        go_enter Tryd.func52, Tryd.ntmps52
        go_wp2
        go_ret
        exact ⟨rfl, rfl⟩)
    · rw [if_neg ht]
      have ht2 : twoB c d = false := by simpa using ht
      have hno := two_no c d ht2
      obtain ⟨S2, hS2⟩ : ∃ S, S = str [c, d] := ⟨_, rfl⟩
      rw [← hS2] at hcut
      have s0 : (S2.toList == [45, 62]) = false := by rw [hS2, str_bl]; exact hno 45 62 (by simp)
      have r0 : ¬ S2.toList = [45, 62] := by simpa using s0
      have s1 : (S2.toList == [60, 45]) = false := by rw [hS2, str_bl]; exact hno 60 45 (by simp)
      have r1 : ¬ S2.toList = [60, 45] := by simpa using s1
      have s2 : (S2.toList == [33, 61]) = false := by rw [hS2, str_bl]; exact hno 33 61 (by simp)
      have r2 : ¬ S2.toList = [33, 61] := by simpa using s2
      have s3 : (S2.toList == [60, 61]) = false := by rw [hS2, str_bl]; exact hno 60 61 (by simp)
      have r3 : ¬ S2.toList = [60, 61] := by simpa using s3
      have s4 : (S2.toList == [62, 61]) = false := by rw [hS2, str_bl]; exact hno 62 61 (by simp)
      have r4 : ¬ S2.toList = [62, 61] := by simpa using s4
      obtain ⟨m, hm⟩ : ∃ m, m = c.toNat := ⟨_, rfl⟩
      have hg : ∀ h : p < (str l).size, (((str l)[p]'h).toNat : Int) = (m : Int) := fun h => by rw [at_str l p c hc h, hm]
      by_cases ho : oneB c = true
      · rw [if_pos ho]
        have h13 := one_yes c ho
        rw [← hm] at h13
        clear ho hd hd2 hc hc2 hend hp3 hp hl hl2 hL hm ht ht2 hno hS2
        rcases h13 with rfl | rfl | rfl | rfl | rfl | rfl | rfl | rfl | rfl | rfl | rfl | rfl | rfl
        all_goals (
          go_enter Tryd.func52, Tryd.ntmps52
          go_wp2
          go_ret
          exact ⟨rfl, rfl⟩)
      · rw [if_neg ho]
        have ho2 : oneB c = false := by simpa using ho
        have h13 := one_no c ho2
        rw [← hm] at h13
        obtain ⟨n1, n2, n3, n4, n5, n6, n7, n8, n9, n10, n11, n12, n13⟩ := h13
        have t1 : ((m : Int) == 40) = false := by simp; omega
        have t2 : ((m : Int) == 41) = false := by simp; omega
        have t3 : ((m : Int) == 91) = false := by simp; omega
        have t4 : ((m : Int) == 93) = false := by simp; omega
        have t5 : ((m : Int) == 123) = false := by simp; omega
        have t6 : ((m : Int) == 125) = false := by simp; omega
        have t7 : ((m : Int) == 58) = false := by simp; omega
        have t8 : ((m : Int) == 44) = false := by simp; omega
        have t9 : ((m : Int) == 46) = false := by simp; omega
        have t10 : ((m : Int) == 45) = false := by simp; omega
        have t11 : ((m : Int) == 60) = false := by simp; omega
        have t12 : ((m : Int) == 62) = false := by simp; omega
        have t13 : ((m : Int) == 61) = false := by simp; omega
        clear ho ho2 hd hd2 hc hc2 hend hp3 hp hl hl2 hL hm ht ht2 hno hS2 n1 n2 n3 n4 n5 n6 n7 n8 n9 n10 n11 n12 n13
        go_enter Tryd.func52, Tryd.ntmps52
        go_wp2
        go_ret
        exact ⟨rfl, rfl⟩
end Go.Proofs.YtmllmnnglkimkabDoor.lex
