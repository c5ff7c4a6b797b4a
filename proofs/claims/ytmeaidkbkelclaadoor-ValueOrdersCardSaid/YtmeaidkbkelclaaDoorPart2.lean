/- Parts of keys are read as they were put (package order): texts. No condition. -/
import Derived.Test.YtmeaidkbkelclaaDoorPart
import Derived.Test.YtmeaidkbkelclaaDoorRise
import Derived.Test.YtmeaidkbkelclaaDoorSl
namespace Go.Proofs.YtmeaidkbkelclaaDoor.order
open Go.RowKit
attribute [local go_sem ↓] Go.wp_at_zero Go.wp_at_succ
attribute [local go_sem] str_bl str_size str_get0
set_option linter.unusedVariables false
set_option maxRecDepth 100000

/-- what a call of p's reader may turn is the reader's block -/
theorem brow_keep {w w' : World} {base g : Nat} {v : Value} {l : List UInt8} (h : BRow w base v l) (k : Keeps [g] w w') (hg : g < base) : BRow w' base v l :=
  rowKeeps h k (fun b hb => by have := (h.lt b hb).1; simp; omega)
theorem PAt.grown {w w' : World} {p g base : Nat} {l : List UInt8} {e : Int} {o : Option Nat} (h : PAt w p g l e) (k : w.grownBy w' o) (ho : ∀ q, o = some q → base ≤ q) (hp : p < base) (hg : g < base) : PAt w' p g l e := by
  have kk : ∀ b, b < base → b < w.heap.size → w'.heap[b]? = w.heap[b]? := fun b hb hl => k.block b hl (fun e => by have := ho b e.symm; omega)
  exact ⟨(kk p hp h.lt.1).trans h.1, (kk g hg h.lt.2).trans h.2.1, h.2.2⟩
theorem keeps_grown {w w1 w2 : World} {X : List Nat} {o : Option Nat} (h : Keeps X w w1) (k : w1.grownBy w2 o) (ho : ∀ q, o = some q → w.heap.size ≤ q) : Keeps X w w2 :=
  ⟨k.os.trans h.os, k.tape.trans h.tape, k.output.trans h.output, Nat.le_trans h.size k.size, fun i hi hx => (k.block i (Nat.lt_of_lt_of_le hi h.size) (fun e => by have := ho i e.symm; omega)).trans (h.block i hi hx)⟩
set_option maxHeartbeats 2000000 in
theorem ptext_any {w : World} {p g : Nat} (t : List UInt8) (ht : t.length ≤ 100000) {r : List UInt8} (h : PAt w p g (textP t ++ r) 0) : Calls Tryd.prog 82 #[.pointer (some ⟨p, 0, none⟩)] w fun e' w' => e' = .returned (.string (str t)) ∧ PAt w' p g r 0 ∧ Keeps [g] w w' := by
  have h0 : PAt w p g (48 :: (esc t ++ 0 :: 1 :: r)) 0 := by
    have e : textP t ++ r = 48 :: (esc t ++ 0 :: 1 :: r) := by simp [textP]
    rwa [e] at h
  have c := pkind_any h0 48 rfl
  have hlt := h0.lt
  clear h h0
  replace c := Lib.hid c; replace ht := Lib.hid ht
  go_enter Tryd.func82, Tryd.ntmps82
  go_wp2_with (go_at_call 119; (with_reducible refine c.out.mono ?_); rintro e w1 ⟨rfl, h1, k1⟩; replace h1 := Lib.hid h1; replace k1 := Lib.hid k1)
  go_loopg [3] t.length (fun gn s3 wr => ∃ (a u : List UInt8), gn = u.length ∧ a ++ u = t ∧ PAt wr p g (esc u ++ 0 :: 1 :: r) 0 ∧ BRow wr w.heap.size s3 a ∧ Keeps [g] w wr)
  case atStart => exact ⟨[], t, rfl, rfl, h1.out, BRow.nil _ _, k1.out⟩
  case round =>
    clear h1 k1 c
    obtain ⟨a, u, hgk, hau, hp, hrow, hk⟩ := hrel
    have hal : a.length < 1000000000 := by have := congrArg List.length hau; have := ht.out; simp at *; omega
    have hsz := hk.size
    match u, hgk, hau, hp with
    | [], hgk, hau, hp =>
      have e1 : esc [] ++ 0 :: 1 :: r = (0 : UInt8) :: 1 :: r := rfl
      rw [e1] at hp
      obtain rfl : a = t := by simpa using hau
      have c1 : Calls Tryd.prog 117 #[.pointer (some ⟨p, 0, none⟩)] wr fun e' w' => e' = .returned (.tuple #[.int .u8 0, .bool true]) ∧ PAt w' p g ((1 : UInt8) :: r) 0 ∧ Keeps [g] wr w' := ptake_any hp
      have c2 : ∀ W, PAt W p g ((1 : UInt8) :: r) 0 → Calls Tryd.prog 117 #[.pointer (some ⟨p, 0, none⟩)] W fun e' w' => e' = .returned (.tuple #[.int .u8 1, .bool true]) ∧ PAt w' p g r 0 ∧ Keeps [g] W w' := fun W hW => ptake_any hW
      have htext : ∀ W W' , Keeps [g] wr W → Keeps [g] W W' → (convert 73 9 u3).run Tryd.prog W' = .ok (.string (str a)) W' := fun W W' k k' => (brow_keep hrow (k.trans k') hlt.2).text
      replace c1 := Lib.hid c1; replace c2 := Lib.hid c2; replace htext := Lib.hid htext
      clear hau hp hrow hgk
      go_wp2_with (first
        | (go_at_call 117; (with_reducible refine c1.out.mono ?_); rintro e w2 ⟨rfl, h2, k2⟩; replace h2 := Lib.hid h2; clear c1)
        | (go_at_call 117; (with_reducible refine (c2.out _ h2.out).mono ?_); rintro e w3 ⟨rfl, h3, k3⟩; replace h3 := Lib.hid h3; have hx := htext.out _ _ k2 k3; clear c2 htext))
      go_ret
      exact ⟨rfl, h3.out, (hk.trans k2).trans k3⟩
    | b :: u, hgk, hau, hp =>
      have hgk2 : gk = u.length + 1 := by simpa using hgk
      by_cases hb : b = 0
      · subst hb
        have e1 : esc (0 :: u) ++ 0 :: 1 :: r = (0 : UInt8) :: 255 :: (esc u ++ 0 :: 1 :: r) := by rw [esc_cons]; rfl
        rw [e1] at hp
        have hau2 : (a ++ [0]) ++ u = t := by rw [← hau]; simp
        have c1 : Calls Tryd.prog 117 #[.pointer (some ⟨p, 0, none⟩)] wr fun e' w' => e' = .returned (.tuple #[.int .u8 0, .bool true]) ∧ PAt w' p g ((255 : UInt8) :: (esc u ++ 0 :: 1 :: r)) 0 ∧ Keeps [g] wr w' := ptake_any hp
        have c2 : ∀ W, PAt W p g ((255 : UInt8) :: (esc u ++ 0 :: 1 :: r)) 0 → Calls Tryd.prog 117 #[.pointer (some ⟨p, 0, none⟩)] W fun e' w' => e' = .returned (.tuple #[.int .u8 255, .bool true]) ∧ PAt w' p g (esc u ++ 0 :: 1 :: r) 0 ∧ Keeps [g] W w' := fun W hW => ptake_any hW
        replace c1 := Lib.hid c1; replace c2 := Lib.hid c2; replace hau2 := Lib.hid hau2; replace hrow := Lib.hid hrow; replace hal := Lib.hid hal; replace hk := Lib.hid hk; replace hsz := Lib.hid hsz
        clear hau hp hgk e1
        subst hgk2
        go_wp2_with (first
          | (go_at_call 117; (with_reducible refine c1.out.mono ?_); rintro e w2 ⟨rfl, h2, k2⟩; replace h2 := Lib.hid h2; replace k2 := Lib.hid k2; clear c1)
          | (go_at_call 117; (with_reducible refine (c2.out _ h2.out).mono ?_); rintro e w3 ⟨rfl, h3, k3⟩; replace hrow := Lib.hid (brow_keep hrow.out (k2.out.trans k3) hlt.2); replace hsz := Lib.hid (Nat.le_trans hsz.out (k2.out.trans k3).size); replace h3 := Lib.hid h3; replace hk := Lib.hid ((hk.out.trans k2.out).trans k3); clear c2 h2 k2)
          | (at_builtin; refine wpList_append_byte rfl _ _ rfl w.heap.size _ a rfl (hrow.out.alloc _) _ _ _ rfl (newCell _ _ _ 0) ?ha hal.out ?hb ?_; (case ha => omega); (case hb => have := hsz.out; simp; omega); intro v2 w2 hrow2 hgrown2; replace hrow2 := Lib.hid hrow2; replace hgrown2 := Lib.hid hgrown2))
        go_roundg u.length
        case measure => omega
        case rel =>
          have hx : Below w3.heap.size w3 (w3.alloc (.cells #[.int .u8 0] 5)) := (Below.refl _ w3).alloc (Nat.le_refl _) _
          have ho := fun q hq => (hrow.out.lt q hq).1
          exact ⟨a ++ [0], u, rfl, hau2.out, (h3.out.below hx).grown hgrown2.out ho hlt.1 hlt.2, hrow2.out, keeps_grown (hk.out.alloc _) hgrown2.out ho⟩
      · have e1 : esc (b :: u) ++ 0 :: 1 :: r = b :: (esc u ++ 0 :: 1 :: r) := by rw [esc_cons, if_neg hb]; rfl
        rw [e1] at hp
        have hau2 : (a ++ [b]) ++ u = t := by rw [← hau]; simp
        have c1 := ptake_any hp
        have hb0 : ((b.toNat : Int) != 0) = true := by
          have : b.toNat ≠ 0 := fun e => hb (UInt8.toNat_inj.1 e)
          simpa using this
        have hbl := b.toNat_lt
        have hbe : UInt8.ofNat ((b.toNat : Int)).toNat = b := by simp
        have hbz : (0 : Int) ≤ (b.toNat : Int) := by omega
        have hbm : (b.toNat : Int) < 256 := by omega
        replace c1 := Lib.hid c1; replace hau2 := Lib.hid hau2; replace hrow := Lib.hid hrow; replace hal := Lib.hid hal; replace hk := Lib.hid hk; replace hsz := Lib.hid hsz; replace hbe := Lib.hid hbe
        clear hau hp hgk e1 hbl
        subst hgk2
        go_wp2_with (first
          | (go_at_call 117; (with_reducible refine c1.out.mono ?_); rintro e w3 ⟨rfl, h3, k3⟩; replace hrow := Lib.hid (brow_keep hrow.out k3 hlt.2); replace hsz := Lib.hid (Nat.le_trans hsz.out k3.size); replace h3 := Lib.hid h3; replace hk := Lib.hid (hk.out.trans k3); clear c1)
          | (at_builtin; refine wpList_append_byte rfl _ _ rfl w.heap.size _ a rfl (hrow.out.alloc _) _ _ _ rfl (newCell _ _ _ 0) ?ha hal.out ?hb ?_; (case ha => omega); (case hb => have := hsz.out; simp; omega); intro v2 w2 hrow2 hgrown2; replace hrow2 := Lib.hid hrow2; replace hgrown2 := Lib.hid hgrown2))
        go_roundg u.length
        case measure => omega
        case rel =>
          have hx : Below w3.heap.size w3 (w3.alloc (.cells #[.int .u8 (b.toNat : Int)] 5)) := (Below.refl _ w3).alloc (Nat.le_refl _) _
          have ho := fun q hq => (hrow.out.lt q hq).1
          exact ⟨a ++ [b], u, rfl, hau2.out, (h3.out.below hx).grown hgrown2.out ho hlt.1 hlt.2, (by have := hrow2.out; rwa [hbe.out] at this), keeps_grown (hk.out.alloc _) hgrown2.out ho⟩
end Go.Proofs.YtmeaidkbkelclaaDoor.order
