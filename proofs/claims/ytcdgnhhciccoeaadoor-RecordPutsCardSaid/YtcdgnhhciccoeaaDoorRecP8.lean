/- A thing out of its bytes (record.Get), and what no bytes give. No condition but that the thing may be, and is not too great. What no bytes give (record.Get); which things may be, as the document has it (lodestoneref26.May). No condition but the slices, and values that both packages know. -/
import Derived.Test.YtcdgnhhciccoeaaDoorRecP5
import Derived.Test.YtcdgnhhciccoeaaDoorRecord3
import Derived.Test.YtcdgnhhciccoeaaDoorReadE
import Derived.Deep.CutBlock
import Derived.Deep.RegionLaw
section
namespace Go.Proofs.YtcdgnhhciccoeaaDoor.recw
open Go.RowKit
open code (numL boolL rdC numE endE)
attribute [local go_sem ↓] Go.wp_at_zero Go.wp_at_succ
attribute [local go_sem] str_size
set_option linter.unusedVariables false
set_option linter.unusedSimpArgs false
set_option maxRecDepth 100000

theorem name_read {w : World} {g : Nat} {r : List UInt8} (n : Nat) (hn : n < 64) (h : code.RdAt w g (numL n ++ r) 0) :
    Calls Tryd.prog 38 #[.pointer (some ⟨g, 0, none⟩)] w fun e w' => e = .returned (.int .i64 (n : Int)) ∧ code.RdAt w' g r 0 ∧ Keeps [g] w w' := by
  have c : Calls Tryd.prog 39 #[.pointer (some ⟨g, 0, none⟩), .int .u64 64] w fun e w' => e = .returned (.int .u64 (n : Int)) ∧ code.RdAt w' g r 0 ∧ Keeps [g] w w' := code.num_read n 64 (by omega) (by decide) h
  have hw : IntKind.i64.wrap (n : Int) = (n : Int) := IntWalk.i64_in _ (by omega)
  clear h
  replace c := Lib.hid c
  go_enter Tryd.func38, Tryd.ntmps38
  go_wp2_with (go_at_call 39; (with_reducible refine c.out.mono ?_); rintro e w1 ⟨rfl, b1, k1⟩)
  go_ret
  exact ⟨rfl, b1, k1⟩
/-- a thing's box -/
def thC (ed : Bool) (la : Value) (ty fm tw : Int) (pr : Value) : Array Value := #[.bool ed, la, .int .i64 ty, .int .u64 fm, .int .u64 tw, pr]
theorem num_put {w : World} {g : Nat} {r : List UInt8} (n most : Nat) (hm : n ≤ most) (hmm : most < 18446744073709551616) (h : w.heap[g]? = some (.cells (rdC (numL n ++ r) 0) 145 (0, 0))) :
    Calls Tryd.prog 39 #[.pointer (some ⟨g, 0, none⟩), .int .u64 (most : Int)] w fun e w' => e = .returned (.int .u64 (n : Int)) ∧ w'.heap[g]? = some (.cells (rdC r 0) 145 (0, 0)) ∧ Keeps [g] w w' := code.num_read n most hm hmm h
theorem num_max {w : World} {g : Nat} {r : List UInt8} (n : Nat) (hm : n < 18446744073709551616) (h : w.heap[g]? = some (.cells (rdC (numL n ++ r) 0) 145 (0, 0))) :
    Calls Tryd.prog 39 #[.pointer (some ⟨g, 0, none⟩), .int .u64 18446744073709551615] w fun e w' => e = .returned (.int .u64 (n : Int)) ∧ w'.heap[g]? = some (.cells (rdC r 0) 145 (0, 0)) ∧ Keeps [g] w w' := code.num_read n 18446744073709551615 (by omega) (by decide) h
theorem name_put {w : World} {g : Nat} {r : List UInt8} (x : Int) (hx : 0 ≤ x ∧ x < 64) (h : w.heap[g]? = some (.cells (rdC (numL x.toNat ++ r) 0) 145 (0, 0))) :
    Calls Tryd.prog 38 #[.pointer (some ⟨g, 0, none⟩)] w fun e w' => e = .returned (.int .i64 x) ∧ w'.heap[g]? = some (.cells (rdC r 0) 145 (0, 0)) ∧ Keeps [g] w w' := by
  have := name_read x.toNat (by omega) h
  rwa [show ((x.toNat : Nat) : Int) = x by omega] at this
set_option maxHeartbeats 32000000 in
theorem get_put (ed : Bool) (L : List Int) (ty fm tw : Int) (P : List Pr) (w : World) (hvk : ∀ p ∈ P, VK p.vl) (hok : thOk ed L ty fm tw P = true) (hlen : (thB ed L ty fm tw P).length ≤ 4096)
    (hty : ed = true → 0 ≤ ty ∧ ty < 64) (hfm : 0 ≤ fm ∧ fm < 18446744073709551616) (htw : 0 ≤ tw ∧ tw < 18446744073709551616) (hL : L.length ≤ 8) (hLa : ∀ x ∈ L, 0 ≤ x ∧ x < 64) (hP : P.length ≤ 16) (hPa : ∀ x ∈ P, 0 ≤ x.key ∧ x.key < 64 ∧ x.kd ≠ 0 ∧ mB x.vl = true)
    (hno : ed = false → ty = 0 ∧ fm = 0 ∧ tw = 0) (hyes : ed = true → L = []) :
    Calls Tryd.prog 9 #[.string (str (thB ed L ty fm tw P))] w fun e w' => ∃ la pr, e = .returned (.tuple #[thV ed la ty fm tw pr, .int .i64 0]) ∧ Sl w' la L.length (inC L) ∧ Sl w' pr P.length (prC P) ∧ Below w.heap.size w w' := by
  have hmay : ∀ W la pr, Sl W la L.length (inC L) → Sl W pr P.length (prC P) → Calls Tryd.prog 12 #[thV ed la ty fm tw pr] W fun e w' => e = .returned (.bool true) ∧ Below W.heap.size W w' := fun W la pr h1 h2 => by
    have := may_any ed la ty fm tw pr L P W h1 h2 hvk
    rwa [hok] at this
  obtain ⟨r1, hr1⟩ : ∃ r, r = numL P.length ++ P.flatMap propB := ⟨_, rfl⟩
  have hB : thB ed L ty fm tw P = boolL ed ++ (headL ed L ty fm tw ++ (L.flatMap labB ++ r1)) := by unfold thB; rw [hr1]; simp
  have hz : (thB ed L ty fm tw P).length = (boolL ed ++ (headL ed L ty fm tw ++ (L.flatMap labB ++ r1))).length := by rw [hB]
  rw [hB]
  rw [hz] at hlen
  obtain ⟨nl, hnl⟩ : ∃ n, n = L.length := ⟨_, rfl⟩
  obtain ⟨np, hnp⟩ : ∃ n, n = P.length := ⟨_, rfl⟩
  rw [← hnl] at hL ⊢
  rw [← hnp] at hP ⊢
  obtain ⟨s, hs⟩ : ∃ s, s = boolL ed ++ (headL ed L ty fm tw ++ (L.flatMap labB ++ r1)) := ⟨_, rfl⟩
  rw [← hs] at hlen ⊢
  have hlen4 : ¬ (4096 : Int) < (s.length : Int) := by omega
  have hrd := fun W => code.read_any (str s) W
  rw [str_toList] at hrd
  have hp0 := (Hp.none_ w []).alloc (thC false (.slice none 0 0) 0 0 0 (.slice none 0 0)) 26
  replace hrd := Lib.hid hrd; replace hs := Lib.hid hs; replace hmay := Lib.hid hmay; replace hr1 := Lib.hid hr1; replace hLa := Lib.hid hLa; replace hPa := Lib.hid hPa; replace hvk := Lib.hid hvk; replace hnl := Lib.hid hnl; replace hnp := Lib.hid hnp; replace hty := Lib.hid hty; replace hfm := Lib.hid hfm; replace htw := Lib.hid htw; replace hno := Lib.hid hno; replace hyes := Lib.hid hyes; replace hp0 := Lib.hid hp0
  clear hok hB hz hlen
  have hp0s : (w.alloc (.cells (thC false (.slice none 0 0) 0 0 0 (.slice none 0 0)) 26)).heap.size = w.heap.size + 1 := by simp
  replace hp0s := Lib.hid hp0s
  unfold thC at hp0 hp0s
  go_enter Tryd.func9, Tryd.ntmps9
  go_upto_region 1 with fail
  generalize w.alloc _ = W at hp0 hp0s ⊢
  generalize hq : w.heap.size = q0 at hp0 hp0s ⊢
  clear hq
  go_upto_region 2 with (go_at_call 36; (with_reducible refine (hrd.out _).mono ?_); rintro e w1 ⟨rfl, rd1, b1⟩; have hp1 := Lib.hid (hp0.out.made rd1 (Nat.le_refl _) b1); clear rd1 b1)
  generalize W.heap.size = g at hp1 hp0s ⊢
  have hp1' : Hid (Hp w [] [.box g (rdC s 0) 145, .box q0 #[.bool false, .slice none 0 0, .int .i64 0, .int .u64 0, .int .u64 0, .slice none 0 0] 26] w1) := hp1
  clear hp1 hp0 hp0s hrd
  have hbr : ∀ W, W.heap[g]? = some (.cells (rdC s 0) 145 (0, 0)) → Calls Tryd.prog 37 #[.pointer (some ⟨g, 0, none⟩)] W fun e w' => e = .returned (.bool ed) ∧ w'.heap[g]? = some (.cells (rdC (headL ed L ty fm tw ++ (L.flatMap labB ++ r1)) 0) 145 (0, 0)) ∧ Keeps [g] W w' := fun W h => code.bool_read ed (by rw [hs.out] at h; exact h)
  replace hbr := Lib.hid hbr
  obtain ⟨x0, hx0⟩ : ∃ x : Nat, x = 0 := ⟨_, rfl⟩
  go_upto_region 3 with (go_at_call 37; (with_reducible refine (hbr.out _ (hp1'.out.box (i := 0) rfl)).mono ?_); rintro e w2 ⟨rfl, rd2, k2⟩; have hp2 := Lib.hid (hp1'.out.call (i := 0) rfl rd2 k2); clear rd2 k2; have hpz := hp2.out.alloc #[.bool false, .slice none 0 0, .int .i64 0, .int .u64 0, .int .u64 0, .slice none 0 0] 26; have y0 := hpz.free (i := 0) rfl 0; have y1 := hpz.free (i := 0) rfl 1; have y2 := hpz.free (i := 0) rfl 2; have y3 := hpz.free (i := 0) rfl 3; have y4 := hpz.free (i := 0) rfl 4; have y5 := hpz.free (i := 0) rfl 5; clear hpz)
  have hp3 := (((hp2.out.alloc #[.bool ed, .slice none 0 0, .int .i64 0, .int .u64 0, .int .u64 0, .slice none 0 0] 26).rowNil 75 4).rowNil 3 1)
  clear hp2 hp1' y0 y1 y2 y3 y4 y5 hbr
  generalize w2.alloc _ = W3 at hp3 ⊢
  generalize w2.heap.size = gx at hp3 ⊢
  have hp : Hid (Hp w [] [.row 3 1 (.slice none 0 0) 0 [], .row 75 4 (.slice none 0 0) 0 [], .box gx #[.bool ed, .slice none 0 0, .int .i64 0, .int .u64 0, .int .u64 0, .slice none 0 0] 26, .box g (rdC (headL ed L ty fm tw ++ (L.flatMap labB ++ r1)) 0) 145, .box q0 #[.bool false, .slice none 0 0, .int .i64 0, .int .u64 0, .int .u64 0, .slice none 0 0] 26] W3) := hp3
  clear hp3 hx0
  have c0 : W3.cell? ⟨gx, 0, none⟩ = some (.bool ed) := (hp.out.cell (i := 2) rfl 0).trans rfl
  go_upto_if 13 with fail
  clear c0
  go_cut [] from 14 to 34 (fun wx => ∃ ad cp, Hp w [] [.row 3 1 (.slice ad nl cp) nl (inC L), .row 75 4 (.slice none 0 0) 0 [], .box gx #[.bool ed, .slice ad nl cp, .int .i64 ty, .int .u64 fm, .int .u64 tw, .slice none 0 0] 26, .box g (rdC r1 0) 145, .box q0 #[.bool false, .slice none 0 0, .int .i64 0, .int .u64 0, .int .u64 0, .slice none 0 0] 26] wx)
  case first =>
    cases ed with
    | true =>
      have hL0 := hyes.out rfl
      obtain ⟨hty0, hty1⟩ := hty.out rfl
      have hl0 : nl = 0 := by rw [hnl.out, hL0]; rfl
      have hh : headL true L ty fm tw ++ (L.flatMap labB ++ r1) = numL ty.toNat ++ (numL fm.toNat ++ (numL tw.toNat ++ r1)) := by unfold headL; rw [if_pos rfl, hL0]; simp
      rw [hh] at hp
      have n1 : ∀ W, W.heap[g]? = some (.cells (rdC (numL ty.toNat ++ (numL fm.toNat ++ (numL tw.toNat ++ r1))) 0) 145 (0, 0)) → Calls Tryd.prog 38 #[.pointer (some ⟨g, 0, none⟩)] W fun e w' => e = .returned (.int .i64 ty) ∧ w'.heap[g]? = some (.cells (rdC (numL fm.toNat ++ (numL tw.toNat ++ r1)) 0) 145 (0, 0)) ∧ Keeps [g] W w' := fun W h => name_put ty ⟨hty0, hty1⟩ h
      have n2 : ∀ W, W.heap[g]? = some (.cells (rdC (numL fm.toNat ++ (numL tw.toNat ++ r1)) 0) 145 (0, 0)) → Calls Tryd.prog 39 #[.pointer (some ⟨g, 0, none⟩), .int .u64 18446744073709551615] W fun e w' => e = .returned (.int .u64 fm) ∧ w'.heap[g]? = some (.cells (rdC (numL tw.toNat ++ r1) 0) 145 (0, 0)) ∧ Keeps [g] W w' := fun W h => by
        have := num_max fm.toNat (by have := hfm.out; omega) h
        rwa [show ((fm.toNat : Nat) : Int) = fm by have := hfm.out; omega] at this
      have n3 : ∀ W, W.heap[g]? = some (.cells (rdC (numL tw.toNat ++ r1) 0) 145 (0, 0)) → Calls Tryd.prog 39 #[.pointer (some ⟨g, 0, none⟩), .int .u64 18446744073709551615] W fun e w' => e = .returned (.int .u64 tw) ∧ w'.heap[g]? = some (.cells (rdC r1 0) 145 (0, 0)) ∧ Keeps [g] W w' := fun W h => by
        have := num_max tw.toNat (by have := htw.out; omega) h
        rwa [show ((tw.toNat : Nat) : Int) = tw by have := htw.out; omega] at this
      have hi0 : inC L = [] := by rw [hL0]; rfl
      replace n1 := Lib.hid n1; replace n2 := Lib.hid n2; replace n3 := Lib.hid n3; replace hl0 := Lib.hid hl0; replace hi0 := Lib.hid hi0
      clear hh hL0 hty0 hty1
      go_upto_region 5 with (go_at_call 38; (with_reducible refine (n1.out _ (hp.out.box (i := 3) rfl)).mono ?_); rintro e w4 ⟨rfl, rd4, k4⟩; have hp4 := Lib.hid (hp.out.call (i := 3) rfl rd4 k4); clear rd4 k4; have m2 := hp4.out.cell (i := 2) rfl 2; have f2 := hp4.out.free (i := 2) rfl 2; simp at m2)
      have hp5 : Hid (Hp w [] [.row 3 1 (.slice none 0 0) 0 [], .row 75 4 (.slice none 0 0) 0 [], .box gx #[.bool true, .slice none 0 0, .int .i64 ty, .int .u64 0, .int .u64 0, .slice none 0 0] 26, .box g (rdC (numL fm.toNat ++ (numL tw.toNat ++ r1)) 0) 145, .box q0 #[.bool false, .slice none 0 0, .int .i64 0, .int .u64 0, .int .u64 0, .slice none 0 0] 26] _) := Lib.hid (hp4.out.put (i := 2) rfl 2 (.int .i64 ty))
      clear hp4 m2 f2 n1
      generalize w4.setCell _ _ = W4 at hp5 ⊢
      go_upto_region 6 with (go_at_call 39; (with_reducible refine (n2.out _ (hp5.out.box (i := 3) rfl)).mono ?_); rintro e w5 ⟨rfl, rd4, k4⟩; have hp6 := Lib.hid (hp5.out.call (i := 3) rfl rd4 k4); clear rd4 k4; have m2 := hp6.out.cell (i := 2) rfl 3; have f2 := hp6.out.free (i := 2) rfl 3; simp at m2)
      have hp7 : Hid (Hp w [] [.row 3 1 (.slice none 0 0) 0 [], .row 75 4 (.slice none 0 0) 0 [], .box gx #[.bool true, .slice none 0 0, .int .i64 ty, .int .u64 fm, .int .u64 0, .slice none 0 0] 26, .box g (rdC (numL tw.toNat ++ r1) 0) 145, .box q0 #[.bool false, .slice none 0 0, .int .i64 0, .int .u64 0, .int .u64 0, .slice none 0 0] 26] _) := Lib.hid (hp6.out.put (i := 2) rfl 3 (.int .u64 fm))
      clear hp6 hp5 m2 f2 n2
      generalize w5.setCell _ _ = W5 at hp7 ⊢
      go_wp2_with (go_at_call 39; (with_reducible refine (n3.out _ (hp7.out.box (i := 3) rfl)).mono ?_); rintro e w6 ⟨rfl, rd4, k4⟩; have hp8 := Lib.hid (hp7.out.call (i := 3) rfl rd4 k4); clear rd4 k4; have m2 := hp8.out.cell (i := 2) rfl 4; have f2 := hp8.out.free (i := 2) rfl 4; simp at m2)
      have hp9 := hp8.out.put (i := 2) rfl 4 (.int .u64 tw)
      go_meet
      refine ⟨none, 0, ?_⟩
      rw [hl0.out, hi0.out]
      exact hp9
    | false =>
      obtain ⟨ht0, hf0, hw0⟩ := hno.out rfl
      have hh : headL false L ty fm tw ++ (L.flatMap labB ++ r1) = numL nl ++ (L.flatMap labB ++ r1) := by unfold headL; rw [if_neg (by decide), hnl.out]
      rw [hh] at hp
      have n1 : ∀ W, W.heap[g]? = some (.cells (rdC (numL nl ++ (L.flatMap labB ++ r1)) 0) 145 (0, 0)) → Calls Tryd.prog 39 #[.pointer (some ⟨g, 0, none⟩), .int .u64 8] W fun e w' => e = .returned (.int .u64 (nl : Int)) ∧ w'.heap[g]? = some (.cells (rdC (L.flatMap labB ++ r1) 0) 145 (0, 0)) ∧ Keeps [g] W w' := fun W h => num_put nl 8 (by omega) (by decide) h
      replace n1 := Lib.hid n1; replace ht0 := Lib.hid ht0; replace hf0 := Lib.hid hf0; replace hw0 := Lib.hid hw0
      clear hh
      go_wp2_with (go_at_call 39; (with_reducible refine (n1.out _ (hp.out.box (i := 3) rfl)).mono ?_); rintro e w4 ⟨rfl, rd4, k4⟩; replace hp := Lib.hid (hp.out.call (i := 3) rfl rd4 k4); clear rd4 k4)
      clear n1
      go_loopg [25] nl (fun gj s25 wr => ∃ (j : Nat) (ad : Option Addr) (cp : Nat), s25 = .int .u64 (j : Int) ∧ j + gj = nl ∧ Hp w [] [.row 3 1 (.slice ad j cp) j (inC (L.take j)), .row 75 4 (.slice none 0 0) 0 [], .box gx #[.bool false, .slice ad j cp, .int .i64 0, .int .u64 0, .int .u64 0, .slice none 0 0] 26, .box g (rdC ((L.drop j).flatMap labB ++ r1) 0) 145, .box q0 #[.bool false, .slice none 0 0, .int .i64 0, .int .u64 0, .int .u64 0, .slice none 0 0] 26] wr)
      case atStart => exact ⟨0, none, 0, rfl, by omega, hp.out⟩
      case round =>
        clear hp
        obtain ⟨j, ad, cp, rfl, hjn, hp⟩ := hrel
        replace hp := Lib.hid hp
        cases gk with
        | zero =>
          obtain rfl : j = nl := by omega
          have hjlt : ¬ ((j : Int) < (j : Int)) := by omega
          have hi1 : inC (L.take j) = inC L := by rw [List.take_of_length_le (by rw [← hnl.out]; exact Nat.le_refl _)]
          have hi2 : (L.drop j).flatMap labB ++ r1 = r1 := by rw [List.drop_eq_nil_of_le (by rw [← hnl.out]; exact Nat.le_refl _)]; rfl
          rw [hi1, hi2] at hp
          clear hi1 hi2
          go_wp2
          go_meet
          refine ⟨ad, cp, ?_⟩
          rw [ht0.out, hf0.out, hw0.out]
          exact hp.out
        | succ u =>
          have hjlt : (j : Int) < (nl : Int) := by omega
          obtain ⟨x, hx⟩ : ∃ x, L[j]? = some x := ⟨_, List.getElem?_eq_getElem (by have := hnl.out; omega)⟩
          have hxb := hLa.out x (List.mem_of_getElem? hx)
          have hdr : (L.drop j).flatMap labB ++ r1 = numL x.toNat ++ ((L.drop (j + 1)).flatMap labB ++ r1) := by rw [dropC hx]; simp [labB]
          rw [hdr] at hp
          have hnm : ∀ W, W.heap[g]? = some (.cells (rdC (numL x.toNat ++ ((L.drop (j + 1)).flatMap labB ++ r1)) 0) 145 (0, 0)) → Calls Tryd.prog 38 #[.pointer (some ⟨g, 0, none⟩)] W fun e w' => e = .returned (.int .i64 x) ∧ w'.heap[g]? = some (.cells (rdC ((L.drop (j + 1)).flatMap labB ++ r1) 0) 145 (0, 0)) ∧ Keeps [g] W w' := fun W h => name_put x hxb h
          have hsl : ∀ W : World, Sl (W.alloc (.cells #[.int .i64 x] 3)) (.slice (some ⟨W.heap.size, 0, none⟩) 1 1) 1 [.int .i64 x] := fun W =>
            ⟨_, _, rfl, by omega, Or.inr ⟨_, 0, rfl, by simp, fun j v hj => by
              rw [Nat.zero_add]
              exact (newCell W _ _ j).trans (by simpa using hj)⟩⟩
          have hon : ∀ u ∈ [Value.int .i64 x], u.oneCell' = true := fun u hu => by simp at hu; subst hu; rfl
          have hnb : j + 1 ≤ 100000000 := by omega
          obtain ⟨m, hm1⟩ : ∃ m, j + 1 = m := ⟨_, rfl⟩
          have hzs : inC (L.take j) ++ [.int .i64 x] = inC (L.take (j + 1)) := by rw [List.take_add_one, hx]; simp [inC]
          rw [hm1] at hzs hnm
          have hmn : m + u = nl := by omega
          replace hsl := Lib.hid hsl; replace hon := Lib.hid hon; replace hnb := Lib.hid hnb; replace hm1 := Lib.hid hm1; replace hzs := Lib.hid hzs; replace hnm := Lib.hid hnm; replace hmn := Lib.hid hmn
          rw [hm1.out] at hp
          clear hx hdr hxb
          go_upto_region 9 with fail
          have hd := Lib.hid hp.out.drew
          have d1 : wr.drew.cell? ⟨gx, 1, none⟩ = some (.slice ad j cp) := (hd.out.cell (i := 2) rfl 1).trans rfl
          go_region_law (first
            | (go_simp; go_at_call 38; (with_reducible refine (hnm.out _ (hd.out.box (i := 3) rfl)).mono ?_); rintro e w3 ⟨rfl, rd3, k3⟩; have hp3 := Lib.hid (hd.out.call (i := 3) rfl rd3 k3); clear rd3 k3; have d3 : w3.cell? ⟨gx, 1, none⟩ = some (.slice ad j cp) := (hp3.out.cell (i := 2) rfl 1).trans rfl; have d4 : (w3.alloc (.cells #[.int .i64 x] 3)).cell? ⟨gx, 1, none⟩ = some (.slice ad j cp) := ((hp3.out.alloc_ (.cells #[.int .i64 x] 3)).cell (i := 2) rfl 1).trans rfl; dsimp only)
            | (refine step_append_sl_hpk rfl _ _ rfl Tryd.underlying22 iInfo rfl (by decide) (by decide) (hp3.out.alloc_ (.cells #[.int .i64 x] 3)) 0 rfl rfl rfl (hsl.out _) rfl hon.out hnb.out hm1.out hzs.out ?_; intro v5 w9 h5 hv5; obtain ⟨ad5, cp5, rfl⟩ := hv5; have c5 : w9.cell? ⟨gx, 1, none⟩ = some (.slice ad j cp) := (h5.cell (i := 2) rfl 1).trans rfl; have f5 := h5.free (i := 2) rfl 1; replace h5 := Lib.hid h5))
          all_goals replace h5 := Lib.hid (h5.out.put (i := 2) rfl 1 (.slice ad5 m cp5))
          all_goals go_wp2
          all_goals
            go_roundg u
            case rel => exact ⟨m, ad5, cp5, by rw [← hm1.out]; go_num, hmn.out, h5.out⟩
            case measure => omega
  obtain ⟨ad, cp, hp2⟩ := hcut
  clear hp
  have hp := Lib.hid hp2
  clear hp2
  have n1 : ∀ W, W.heap[g]? = some (.cells (rdC r1 0) 145 (0, 0)) → Calls Tryd.prog 39 #[.pointer (some ⟨g, 0, none⟩), .int .u64 16] W fun e w' => e = .returned (.int .u64 (np : Int)) ∧ w'.heap[g]? = some (.cells (rdC (P.flatMap propB) 0) 145 (0, 0)) ∧ Keeps [g] W w' := fun W h => num_put np 16 (by omega) (by decide) (by rw [hr1.out, ← hnp.out] at h; exact h)
  replace n1 := Lib.hid n1
  go_wp2_with (go_at_call 39; (with_reducible refine (n1.out _ (hp.out.box (i := 3) rfl)).mono ?_); rintro e w4 ⟨rfl, rd4, k4⟩; replace hp := Lib.hid (hp.out.call (i := 3) rfl rd4 k4); clear rd4 k4)
  clear n1
  go_loopg [37] np (fun gj s37 wr => ∃ (j : Nat) (ap : Option Addr) (cq : Nat), s37 = .int .u64 (j : Int) ∧ j + gj = np ∧ Hp w [] [.row 75 4 (.slice ap j cq) j (prC (P.take j)), .row 3 1 (.slice ad nl cp) nl (inC L), .box gx #[.bool ed, .slice ad nl cp, .int .i64 ty, .int .u64 fm, .int .u64 tw, .slice ap j cq] 26, .box g (rdC ((P.drop j).flatMap propB) 0) 145, .box q0 #[.bool false, .slice none 0 0, .int .i64 0, .int .u64 0, .int .u64 0, .slice none 0 0] 26] wr)
  case atStart => exact ⟨0, none, 0, rfl, by omega, hp.out.perm (List.Perm.swap _ _ _)⟩
  case round =>
    clear hp
    obtain ⟨j, ap, cq, rfl, hjn, hp⟩ := hrel
    replace hp := Lib.hid hp
    cases gk with
    | zero =>
      obtain rfl : j = np := by omega
      have hjlt : ¬ ((j : Int) < (j : Int)) := by omega
      have hi1 : prC (P.take j) = prC P := by rw [List.take_of_length_le (by rw [← hnp.out]; exact Nat.le_refl _)]
      have hi2 : (P.drop j).flatMap propB = [] := by rw [List.drop_eq_nil_of_le (by rw [← hnp.out]; exact Nat.le_refl _)]; rfl
      rw [hi1, hi2] at hp
      clear hi1 hi2
      have hend : ∀ W, W.heap[g]? = some (.cells (rdC [] 0) 145 (0, 0)) → Calls Tryd.prog 41 #[.pointer (some ⟨g, 0, none⟩)] W fun e w' => e = .returned (.int .i64 0) ∧ Keeps [g] W w' := fun W h => code.end_read h
      have hsla : ∀ rs W, Hp w [] rs W → rs[1]? = some (.row 3 1 (.slice ad nl cp) nl (inC L)) → Sl W (.slice ad nl cp) nl (inC L) := fun rs W h hi => h.sl hi (by omega)
      have hslp : ∀ rs W, Hp w [] rs W → rs[0]? = some (.row 75 4 (.slice ap j cq) j (prC P)) → Sl W (.slice ap j cq) j (prC P) := fun rs W h hi => h.sl hi (by omega)
      have hmay2 : ∀ rs W, Hp w [] rs W → rs[1]? = some (.row 3 1 (.slice ad nl cp) nl (inC L)) → rs[0]? = some (.row 75 4 (.slice ap j cq) j (prC P)) → Calls Tryd.prog 12 #[.agg #[.bool ed, .slice ad nl cp, .int .i64 ty, .int .u64 fm, .int .u64 tw, .slice ap j cq]] W fun e w' => e = .returned (.bool true) ∧ Below W.heap.size W w' := fun rs W h h1 h2 => hmay.out W _ _ (by rw [← hnl.out]; exact hsla rs W h h1) (by rw [← hnp.out]; exact hslp rs W h h2)
      replace hend := Lib.hid hend; replace hsla := Lib.hid hsla; replace hslp := Lib.hid hslp; replace hmay2 := Lib.hid hmay2
      go_upto_region 18 with (go_at_call 41; (with_reducible refine (hend.out _ (hp.out.box (i := 3) rfl)).mono ?_); rintro e w5 ⟨rfl, k5⟩; have hp5 := Lib.hid (hp.out.lose (i := 3) rfl k5); clear k5)
      have hp6 : Hid (Hp w [] [.row 75 4 (.slice ap j cq) j (prC P), .row 3 1 (.slice ad nl cp) nl (inC L), .box gx #[.bool ed, .slice ad nl cp, .int .i64 ty, .int .u64 fm, .int .u64 tw, .slice ap j cq] 26, .box q0 #[.bool false, .slice none 0 0, .int .i64 0, .int .u64 0, .int .u64 0, .slice none 0 0] 26] w5) := hp5
      clear hp5 hp hend
      have hcx : ∀ W, Hp w [] [.row 75 4 (.slice ap j cq) j (prC P), .row 3 1 (.slice ad nl cp) nl (inC L), .box gx #[.bool ed, .slice ad nl cp, .int .i64 ty, .int .u64 fm, .int .u64 tw, .slice ap j cq] 26, .box q0 #[.bool false, .slice none 0 0, .int .i64 0, .int .u64 0, .int .u64 0, .slice none 0 0] 26] W → W.cell? ⟨gx, 0, none⟩ = some (.bool ed) ∧ W.cell? ⟨gx, 1, none⟩ = some (.slice ad nl cp) ∧ W.cell? ⟨gx, 2, none⟩ = some (.int .i64 ty) ∧ W.cell? ⟨gx, 3, none⟩ = some (.int .u64 fm) ∧ W.cell? ⟨gx, 4, none⟩ = some (.int .u64 tw) ∧ W.cell? ⟨gx, 5, none⟩ = some (.slice ap j cq) := fun W h =>
        ⟨(h.cell (i := 2) rfl 0).trans rfl, (h.cell (i := 2) rfl 1).trans rfl, (h.cell (i := 2) rfl 2).trans rfl, (h.cell (i := 2) rfl 3).trans rfl, (h.cell (i := 2) rfl 4).trans rfl, (h.cell (i := 2) rfl 5).trans rfl⟩
      replace hcx := Lib.hid hcx
      obtain ⟨c0, c1, c2, c3, c4, c5⟩ := hcx.out _ hp6.out
      go_upto_region 20 with (go_at_call 12; (with_reducible refine (hmay2.out _ _ hp6.out rfl rfl).mono ?_); rintro e w6 ⟨rfl, b6⟩; replace hp6 := Lib.hid (hp6.out.below b6); clear b6)
      clear c0 c1 c2 c3 c4 c5
      obtain ⟨c0, c1, c2, c3, c4, c5⟩ := hcx.out _ hp6.out
      have y0 := hp6.out.free (i := 3) rfl 0; have y1 := hp6.out.free (i := 3) rfl 1; have y2 := hp6.out.free (i := 3) rfl 2; have y3 := hp6.out.free (i := 3) rfl 3; have y4 := hp6.out.free (i := 3) rfl 4; have y5 := hp6.out.free (i := 3) rfl 5
      have z0 := hp6.out.cell (i := 3) rfl 0; have z1 := hp6.out.cell (i := 3) rfl 1; have z2 := hp6.out.cell (i := 3) rfl 2; have z3 := hp6.out.cell (i := 3) rfl 3; have z4 := hp6.out.cell (i := 3) rfl 4; have z5 := hp6.out.cell (i := 3) rfl 5
      simp at z0 z1 z2 z3 z4 z5
      have hpf := Lib.hid ((((((hp6.out.put (i := 3) rfl 0 (.bool ed)).put (i := 3) rfl 1 (.slice ad nl cp)).put (i := 3) rfl 2 (.int .i64 ty)).put (i := 3) rfl 3 (.int .u64 fm)).put (i := 3) rfl 4 (.int .u64 tw)).put (i := 3) rfl 5 (.slice ap j cq))
      clear hp6
      go_wp2
      refine bodyPost_ret (rec.get_results _ _ q0 #[.bool ed, .slice ad nl cp, .int .i64 ty, .int .u64 fm, .int .u64 tw, .slice ap j cq] rfl rfl (hpf.out.box (i := 3) rfl) rfl) rfl ?_
      exact ⟨_, _, rfl, hsla.out _ _ hpf.out rfl, hslp.out _ _ hpf.out rfl, hpf.out.bel⟩
    | succ u =>
      have hjlt : (j : Int) < (np : Int) := by omega
      obtain ⟨x, hx⟩ : ∃ x, P[j]? = some x := ⟨_, List.getElem?_eq_getElem (by have := hnp.out; omega)⟩
      obtain ⟨hx0, hx1, hx2, hx3⟩ := hPa.out x (List.mem_of_getElem? hx)
      have hvt := (hvk.out x (List.mem_of_getElem? hx)).take hx3
      have hdr : (P.drop j).flatMap propB = numL x.key.toNat ++ (pB x.vl ++ (P.drop (j + 1)).flatMap propB) := by rw [dropC hx]; simp [propB]
      rw [hdr] at hp
      have hnm : ∀ W, W.heap[g]? = some (.cells (rdC (numL x.key.toNat ++ (pB x.vl ++ (P.drop (j + 1)).flatMap propB)) 0) 145 (0, 0)) → Calls Tryd.prog 38 #[.pointer (some ⟨g, 0, none⟩)] W fun e w' => e = .returned (.int .i64 x.key) ∧ w'.heap[g]? = some (.cells (rdC (pB x.vl ++ (P.drop (j + 1)).flatMap propB) 0) 145 (0, 0)) ∧ Keeps [g] W w' := fun W h => name_put x.key ⟨hx0, hx1⟩ h
      have htk : ∀ W, W.heap[g]? = some (.cells (rdC (pB x.vl ++ (P.drop (j + 1)).flatMap propB) 0) 145 (0, 0)) → Calls Tryd.prog 40 #[.pointer (some ⟨g, 0, none⟩)] W fun e w' => e = .returned (.agg #[.int .i64 x.kd, .int .i64 x.n, .string x.s]) ∧ w'.heap[g]? = some (.cells (rdC ((P.drop (j + 1)).flatMap propB) 0) 145 (0, 0)) ∧ Keeps [g] W w' := fun W h => hvt g _ W h
      obtain ⟨m, hm1⟩ : ∃ m, j + 1 = m := ⟨_, rfl⟩
      have hzs : prC (P.take j) ++ [.int .i64 x.key, .int .i64 x.kd, .int .i64 x.n, .string x.s] = prC (P.take (j + 1)) := by rw [List.take_add_one, hx, prC_append]; rfl
      rw [hm1] at hzs hnm htk
      obtain ⟨xk, xd, xn, xs⟩ := x
      simp only at hnm htk hzs
      have hsl : ∀ W : World, Sl (W.alloc (.cells #[.int .i64 xk, .int .i64 xd, .int .i64 xn, .string xs] 75)) (.slice (some ⟨W.heap.size, 0, none⟩) 1 1) 1 [.int .i64 xk, .int .i64 xd, .int .i64 xn, .string xs] := fun W =>
        ⟨_, _, rfl, by omega, Or.inr ⟨_, 0, rfl, by simp, fun j v hj => by
          rw [Nat.zero_add]
          exact (newCell W _ _ j).trans (by simpa using hj)⟩⟩
      have hon : ∀ u ∈ [Value.int .i64 xk, .int .i64 xd, .int .i64 xn, .string xs], u.oneCell' = true := fun u hu => by simp at hu; rcases hu with rfl | rfl | rfl | rfl <;> rfl
      have hnb : j + 1 ≤ 100000000 := by omega
      have hmn : m + u = np := by omega
      rw [hm1] at hp
      replace hsl := Lib.hid hsl; replace hon := Lib.hid hon; replace hnb := Lib.hid hnb; replace hm1 := Lib.hid hm1; replace hzs := Lib.hid hzs; replace hnm := Lib.hid hnm; replace htk := Lib.hid htk; replace hmn := Lib.hid hmn
      clear hx hdr hx0 hx1 hx2 hx3 hvt
      go_upto_region 13 with fail
      have hd := Lib.hid hp.out.drew
      have d1 : wr.drew.cell? ⟨gx, 5, none⟩ = some (.slice ap j cq) := (hd.out.cell (i := 2) rfl 5).trans rfl
      go_region_law (first
        | (go_simp; go_at_call 38; (with_reducible refine (hnm.out _ (hd.out.box (i := 3) rfl)).mono ?_); rintro e w3 ⟨rfl, rd3, k3⟩; have hp3 := Lib.hid (hd.out.call (i := 3) rfl rd3 k3); clear rd3 k3; have d3 : w3.cell? ⟨gx, 5, none⟩ = some (.slice ap j cq) := (hp3.out.cell (i := 2) rfl 5).trans rfl; dsimp only)
        | (go_simp; go_at_call 40; (with_reducible refine (htk.out _ (hp3.out.box (i := 3) rfl)).mono ?_); rintro e w4 ⟨rfl, rd3, k3⟩; have hp4 := Lib.hid (hp3.out.call (i := 3) rfl rd3 k3); clear rd3 k3; have d4 : w4.cell? ⟨gx, 5, none⟩ = some (.slice ap j cq) := (hp4.out.cell (i := 2) rfl 5).trans rfl; have d5 : (w4.alloc (.cells #[.int .i64 xk, .int .i64 xd, .int .i64 xn, .string xs] 75)).cell? ⟨gx, 5, none⟩ = some (.slice ap j cq) := ((hp4.out.alloc_ (.cells #[.int .i64 xk, .int .i64 xd, .int .i64 xn, .string xs] 75)).cell (i := 2) rfl 5).trans rfl; dsimp only)
        | (refine step_append_sl_hpk rfl _ _ rfl Tryd.underlying24 pInfo rfl (by decide) (by decide) (hp4.out.alloc_ (.cells #[.int .i64 xk, .int .i64 xd, .int .i64 xn, .string xs] 75)) 0 rfl rfl rfl (hsl.out _) rfl hon.out hnb.out hm1.out hzs.out ?_; intro v5 w9 h5 hv5; obtain ⟨ad5, cp5, rfl⟩ := hv5; have c5 : w9.cell? ⟨gx, 5, none⟩ = some (.slice ap j cq) := (h5.cell (i := 2) rfl 5).trans rfl; have f5 := h5.free (i := 2) rfl 5; replace h5 := Lib.hid h5))
      all_goals replace h5 := Lib.hid (h5.out.put (i := 2) rfl 5 (.slice ad5 m cp5))
      all_goals go_wp2
      all_goals
        go_roundg u
        case rel => exact ⟨m, ad5, cp5, by rw [← hm1.out]; go_num, hmn.out, h5.out⟩
        case measure => omega
end Go.Proofs.YtcdgnhhciccoeaaDoor.recw
end
section
namespace Go.Proofs.YtcdgnhhciccoeaaDoor.recw
open Go.RowKit
open code (numL boolL rdC numE endE)
attribute [local go_sem ↓] Go.wp_at_zero Go.wp_at_succ
attribute [local go_sem] str_size
set_option linter.unusedVariables false
set_option linter.unusedSimpArgs false
set_option maxRecDepth 100000

theorem bool_none {w : World} {g : Nat} (h : w.heap[g]? = some (.cells (rdC [] 0) 145 (0, 0))) :
    Calls Tryd.prog 37 #[.pointer (some ⟨g, 0, none⟩)] w fun e w' => e = .returned (.bool false) ∧ w'.heap[g]? = some (.cells (rdC [] 2) 145 (0, 0)) ∧ Keeps [g] w w' := by
  have c : Calls Tryd.prog 39 #[.pointer (some ⟨g, 0, none⟩), .int .u64 1] w fun e w' => e = .returned (.int .u64 0) ∧ w'.heap[g]? = some (.cells (rdC [] 2) 145 (0, 0)) ∧ Keeps [g] w w' := by
    have h2 : code.RdAt w g [] 0 := h
    have := code.num_step 1 (by decide) h2
    have e : numE 1 [] 0 = (0, [], 2) := by decide
    rw [e] at this
    exact this
  clear h
  replace c := Lib.hid c
  go_enter Tryd.func37, Tryd.ntmps37
  go_wp2_with (go_at_call 39; (with_reducible refine c.out.mono ?_); rintro e w1 ⟨rfl, b1, k1⟩)
  go_ret
  exact ⟨rfl, b1, k1⟩
theorem num_none {w : World} {g : Nat} (most : Nat) (hm : most < 18446744073709551616) (h : w.heap[g]? = some (.cells (rdC [] 2) 145 (0, 0))) :
    Calls Tryd.prog 39 #[.pointer (some ⟨g, 0, none⟩), .int .u64 (most : Int)] w fun e w' => e = .returned (.int .u64 0) ∧ w'.heap[g]? = some (.cells (rdC [] 2) 145 (0, 0)) ∧ Keeps [g] w w' := by
  have h2 : code.RdAt w g [] 2 := h
  have := code.num_step most hm h2
  have e : numE most [] 2 = (0, [], 2) := by unfold numE; rw [if_neg (by decide)]
  rw [e] at this
  exact this
theorem end_none {w : World} {g : Nat} (h : w.heap[g]? = some (.cells (rdC [] 2) 145 (0, 0))) :
    Calls Tryd.prog 41 #[.pointer (some ⟨g, 0, none⟩)] w fun e w' => e = .returned (.int .i64 2) ∧ Keeps [g] w w' := by
  have h2 : code.RdAt w g [] 2 := h
  have := code.end_step h2
  have e : endE [] 2 = 2 := by decide
  rw [e] at this
  exact this
theorem get_results2 (tmps : Array Value) (W' : World) (g : Nat) (cs : Array Value) (er : Value) (h2 : tmps.getD 2 undef = .pointer (some ⟨g, 0, none⟩)) (h3 : tmps.getD 3 undef = er) (hg : W'.heap[g]? = some (.cells cs 26 (0, 0))) (hi : cs.size = 6) :
    (results Tryd.f9 tmps).run Tryd.prog W' = .ok (.tuple #[.agg cs, er]) W' := by
  have h2' : tmps[2]?.getD undef = .pointer (some ⟨g, 0, none⟩) := by simpa using h2
  have h3' : tmps[3]?.getD undef = er := by simpa using h3
  have hs : (Tryd.prog.info? 26).map (·.size) = some cs.size := by rw [hi]; kernel_rfl
  simp [results, Tryd.results9, h2', h3', asAddr, run_loadVar_row W' g 26 26 cs (0, 0) _ hg Tryd.underlying26 rfl hs]
set_option maxHeartbeats 16000000 in
theorem get_none (w : World) : Calls Tryd.prog 9 #[.string ⟨#[]⟩] w fun e w' => e = .returned (.tuple #[thV false (.slice none 0 0) 0 0 0 (.slice none 0 0), .int .i64 2]) ∧ Below w.heap.size w w' := by
  have hrd : ∀ W, Calls Tryd.prog 36 #[.string ⟨#[]⟩] W fun e w' => e = .returned (.pointer (some ⟨W.heap.size, 0, none⟩)) ∧ code.RdAt w' W.heap.size [] 0 ∧ Below W.heap.size W w' := fun W => code.read_any _ W
  have hp0 := (Hp.none_ w []).alloc (thC false (.slice none 0 0) 0 0 0 (.slice none 0 0)) 26
  replace hrd := Lib.hid hrd; replace hp0 := Lib.hid hp0
  unfold thC at hp0
  unfold thV
  have n8 : ∀ (W : World) (g : Nat), W.heap[g]? = some (.cells (rdC [] 2) 145 (0, 0)) → Calls Tryd.prog 39 #[.pointer (some ⟨g, 0, none⟩), .int .u64 8] W fun e w' => e = .returned (.int .u64 0) ∧ w'.heap[g]? = some (.cells (rdC [] 2) 145 (0, 0)) ∧ Keeps [g] W w' := fun W g h => num_none 8 (by decide) h
  have n16 : ∀ (W : World) (g : Nat), W.heap[g]? = some (.cells (rdC [] 2) 145 (0, 0)) → Calls Tryd.prog 39 #[.pointer (some ⟨g, 0, none⟩), .int .u64 16] W fun e w' => e = .returned (.int .u64 0) ∧ w'.heap[g]? = some (.cells (rdC [] 2) 145 (0, 0)) ∧ Keeps [g] W w' := fun W g h => num_none 16 (by decide) h
  replace n8 := Lib.hid n8; replace n16 := Lib.hid n16
  go_enter Tryd.func9, Tryd.ntmps9
  go_upto_region 1 with fail
  generalize w.alloc _ = W at hp0 ⊢
  generalize hq : w.heap.size = q0 at hp0 ⊢
  clear hq
  go_upto_region 2 with (go_at_call 36; (with_reducible refine (hrd.out _).mono ?_); rintro e w1 ⟨rfl, rd1, b1⟩; have hp1 := Lib.hid (hp0.out.made rd1 (Nat.le_refl _) b1); clear rd1 b1)
  generalize W.heap.size = g at hp1 ⊢
  have hp1' : Hid (Hp w [] [.box g (rdC [] 0) 145, .box q0 #[.bool false, .slice none 0 0, .int .i64 0, .int .u64 0, .int .u64 0, .slice none 0 0] 26] w1) := hp1
  clear hp1 hp0 hrd
  go_upto_region 3 with (go_at_call 37; (with_reducible refine (bool_none (hp1'.out.box (i := 0) rfl)).mono ?_); rintro e w2 ⟨rfl, rd2, k2⟩; have hp2 := Lib.hid (hp1'.out.call (i := 0) rfl rd2 k2); clear rd2 k2)
  have hp3 := hp2.out.alloc #[.bool false, .slice none 0 0, .int .i64 0, .int .u64 0, .int .u64 0, .slice none 0 0] 26
  clear hp2 hp1'
  generalize w2.alloc _ = W3 at hp3 ⊢
  generalize w2.heap.size = gx at hp3 ⊢
  have hp : Hid (Hp w [] [.box gx #[.bool false, .slice none 0 0, .int .i64 0, .int .u64 0, .int .u64 0, .slice none 0 0] 26, .box g (rdC [] 2) 145, .box q0 #[.bool false, .slice none 0 0, .int .i64 0, .int .u64 0, .int .u64 0, .slice none 0 0] 26] W3) := hp3
  clear hp3
  have c0 : W3.cell? ⟨gx, 0, none⟩ = some (.bool false) := (hp.out.cell (i := 0) rfl 0).trans rfl
  go_wp2_with (go_at_call 39; (with_reducible refine (n8.out _ _ (hp.out.box (i := 1) rfl)).mono ?_); rintro e w4 ⟨rfl, rd4, k4⟩; replace hp := Lib.hid (hp.out.call (i := 1) rfl rd4 k4); clear rd4 k4)
  clear c0
  go_loopg [25] 0 (fun gj s25 wr => s25 = .int .u64 0 ∧ gj = 0 ∧ Hp w [] [.box gx #[.bool false, .slice none 0 0, .int .i64 0, .int .u64 0, .int .u64 0, .slice none 0 0] 26, .box g (rdC [] 2) 145, .box q0 #[.bool false, .slice none 0 0, .int .i64 0, .int .u64 0, .int .u64 0, .slice none 0 0] 26] wr)
  case atStart => exact ⟨rfl, rfl, hp.out⟩
  case round =>
    clear hp
    obtain ⟨rfl, h0, hp⟩ := hrel
    subst h0
    replace hp := Lib.hid hp
    go_wp2_with (go_at_call 39; (with_reducible refine (n16.out _ _ (hp.out.box (i := 1) rfl)).mono ?_); rintro e w5 ⟨rfl, rd4, k4⟩; replace hp := Lib.hid (hp.out.call (i := 1) rfl rd4 k4); clear rd4 k4)
    go_loopg [37] 0 (fun gj s37 wr => s37 = .int .u64 0 ∧ gj = 0 ∧ Hp w [] [.box gx #[.bool false, .slice none 0 0, .int .i64 0, .int .u64 0, .int .u64 0, .slice none 0 0] 26, .box g (rdC [] 2) 145, .box q0 #[.bool false, .slice none 0 0, .int .i64 0, .int .u64 0, .int .u64 0, .slice none 0 0] 26] wr)
    case atStart => exact ⟨rfl, rfl, hp.out⟩
    case round =>
      clear hp
      obtain ⟨rfl, h0, hp⟩ := hrel
      subst h0
      replace hp := Lib.hid hp
      go_upto_region 17 with (go_at_call 41; (with_reducible refine (end_none (hp.out.box (i := 1) rfl)).mono ?_); rintro e w6 ⟨rfl, k5⟩; have hp5 := Lib.hid (hp.out.lose (i := 1) rfl k5); clear k5)
      have hp6 : Hid (Hp w [] [.box gx #[.bool false, .slice none 0 0, .int .i64 0, .int .u64 0, .int .u64 0, .slice none 0 0] 26, .box q0 #[.bool false, .slice none 0 0, .int .i64 0, .int .u64 0, .int .u64 0, .slice none 0 0] 26] w6) := hp5
      clear hp5 hp
      have y0 := hp6.out.free (i := 1) rfl 0; have y1 := hp6.out.free (i := 1) rfl 1; have y2 := hp6.out.free (i := 1) rfl 2; have y3 := hp6.out.free (i := 1) rfl 3; have y4 := hp6.out.free (i := 1) rfl 4; have y5 := hp6.out.free (i := 1) rfl 5
      have z0 := hp6.out.cell (i := 1) rfl 0; have z1 := hp6.out.cell (i := 1) rfl 1; have z2 := hp6.out.cell (i := 1) rfl 2; have z3 := hp6.out.cell (i := 1) rfl 3; have z4 := hp6.out.cell (i := 1) rfl 4; have z5 := hp6.out.cell (i := 1) rfl 5
      simp at z0 z1 z2 z3 z4 z5
      have hpf := Lib.hid ((((((hp6.out.put (i := 1) rfl 0 (.bool false)).put (i := 1) rfl 1 (.slice none 0 0)).put (i := 1) rfl 2 (.int .i64 0)).put (i := 1) rfl 3 (.int .u64 0)).put (i := 1) rfl 4 (.int .u64 0)).put (i := 1) rfl 5 (.slice none 0 0))
      clear hp6
      go_wp2
      refine bodyPost_ret (get_results2 _ _ q0 #[.bool false, .slice none 0 0, .int .i64 0, .int .u64 0, .int .u64 0, .slice none 0 0] (.int .i64 2) rfl rfl (hpf.out.box (i := 1) rfl) rfl) rfl ?_
      exact ⟨rfl, hpf.out.bel⟩
end Go.Proofs.YtcdgnhhciccoeaaDoor.recw
end
