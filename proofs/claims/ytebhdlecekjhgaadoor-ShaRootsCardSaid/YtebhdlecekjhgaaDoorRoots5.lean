/- What the salts are made of: Salts, Begin, Right; the law ShaRoots. The table of salts is a premise. No other condition. -/
import Derived.Test.YtebhdlecekjhgaaDoorRoots4
import Derived.Test.YtebhdlecekjhgaaDoorShaLaws
namespace Go.Proofs.YtebhdlecekjhgaaDoor.roots
open Go.RowKit
attribute [local go_sem ↓] Go.wp_at_zero Go.wp_at_succ
set_option linter.unusedVariables false
set_option maxRecDepth 100000

def cubesL : List Nat := (primesTo 310).map cubeW
theorem cubes_known : cubesL = sha.salts := by decide +kernel
def beginL : Nat → List Nat
  | 0 => [0, 0, 0, 0, 0, 0, 0, 0]
  | i + 1 => (beginL i).set i (squareW ((primesTo 310).getD i 0))
theorem begin_known : beginL 8 = [1779033703, 3144134277, 1013904242, 2773480762, 1359893119, 2600822924, 528734635, 1541459225] := by decide +kernel
theorem begin_len : ∀ i, (beginL i).length = 8
  | 0 => rfl
  | i + 1 => by show (List.set _ _ _).length = 8; rw [List.length_set]; exact begin_len i
theorem owns_cell {w : World} {base : Nat} {t : TypeId} {g n c : Nat} {xs : List Value} (h : w.ownsRow base t 1 (.slice (some ⟨g, 0, none⟩) n c) n xs) (j : Nat) (u : Value) (hu : xs[j]? = some u) : w.cell? ⟨g, j, none⟩ = some u := by
  have := World.ownsRow.cells h (g := g) (by simp [Value.ownBlock]) j u hu
  have hadd : (⟨g, 0, none⟩ : Addr).add j = ⟨g, j, none⟩ := by unfold Addr.add; split <;> simp_all
  rwa [hadd] at this
/-- rows of two kinds do not lie in one block -/
theorem owns_apart {w : World} {b1 b2 : Nat} {t1 t2 : TypeId} {g n c m s : Nat} {v : Value} {xs ys : List Value} (h : w.ownsRow b1 t1 1 (.slice (some ⟨g, 0, none⟩) n c) n xs) (hn : 0 < n) (k : w.ownsRow b2 t2 s v m ys) (ht : t1 ≠ t2) : v.ownBlock ≠ some g := by
  rcases h.2 with ⟨_, h0⟩ | ⟨g', cap, cur, hv, _, hg, _⟩
  · omega
  · injection hv with hv1 _ _
    injection hv1 with hv2
    injection hv2 with hv3
    subst hv3
    rcases k.2 with ⟨rfl, _⟩ | ⟨g2, cap2, cur2, rfl, _, hg2, _⟩
    · simp [Value.ownBlock]
    · simp [Value.ownBlock]
      rintro rfl
      rw [hg] at hg2
      injection hg2 with e
      injection e with _ e2 _
      exact ht e2
theorem owns_grown {w w' : World} {b1 b2 : Nat} {t1 t2 : TypeId} {g n c m s : Nat} {v : Value} {xs ys : List Value} (h : w.ownsRow b1 t1 1 (.slice (some ⟨g, 0, none⟩) n c) n xs) (hn : 0 < n) (k : w.ownsRow b2 t2 s v m ys) (ht : t1 ≠ t2) (hg : w.grownBy w' v.ownBlock) : w'.ownsRow b1 t1 1 (.slice (some ⟨g, 0, none⟩) n c) n xs :=
  World.ownsRow.kept h hg (Or.inr (fun e => owns_apart h hn k ht (e ▸ by simp [Value.ownBlock])))
theorem prime_at (i : Nat) (h : i < 64) : ((primesTo 310).map dw)[i]? = some (.int .u64 (((primesTo 310).getD i 0 : Nat) : Int)) ∧ (primesTo 310).getD i 0 < 312 := by
  have hl : i < (primesTo 310).length := by rw [to_310]; exact h
  exact ⟨map_at _ i hl, (to_getD 310 i hl).2⟩
theorem map_take_succ (f : Nat → Nat) (l : List Nat) (i : Nat) (h : i < l.length) : (l.map f).take (i + 1) = (l.map f).take i ++ [f (l.getD i 0)] := by
  rw [List.take_succ_eq_append_getElem (by simpa using h)]
  simp [List.getD, List.getElem?_eq_getElem h]
theorem cubes_take (i : Nat) (h : i < 64) : (cubesL.take (i + 1)) = cubesL.take i ++ [cubeW ((primesTo 310).getD i 0)] :=
  map_take_succ cubeW (primesTo 310) i (by rw [to_310]; exact h)
set_option maxHeartbeats 4000000 in
theorem salts_any (w : World) :
    Calls Tryd.prog 35 #[] w fun e w' => ∃ v, e = .returned v ∧ w'.ownsRow w.heap.size 26 1 v 64 (sha.salts.map word) ∧ Below w.heap.size w w' := by
  go_enter Tryd.func35, Tryd.ntmps35
  go_upto_region 3 with (go_at_call 71; (with_reducible refine (primes_any _).mono ?_); rintro e w1 ⟨lv, rfl, hl, b1⟩; replace hl := Lib.hid hl; replace b1 := Lib.hid b1)
  have hr0 := owns_below (owns_empty w 26 1) b1.out
  have hb0 : Below w.heap.size w w1 := ((Below.refl _ _).alloc (Nat.le_refl _) _).trans (b1.out.mono (by simp))
  obtain ⟨ad, c, rfl⟩ := owns_form hl.out
  obtain ⟨g, rfl, _⟩ := owns_at hl.out (by decide)
  have hl1 := hl.out
  generalize (w.alloc (.cells #[] 26)).heap.size = B1 at hl1
  clear b1 hl
  go_loopw [1, 3] (fun out i wr => ∃ (k c2 : Nat) (ad2 : Option Addr), k ≤ 64 ∧ i = .int .i64 k ∧ out = .slice ad2 k c2 ∧ wr.ownsRow w.heap.size 26 1 (.slice ad2 k c2) k ((cubesL.take k).map word) ∧ wr.ownsRow B1 51 1 (.slice (some ⟨g, 0, none⟩) 64 c) 64 ((primesTo 310).map dw) ∧ Below w.heap.size w wr) (fun _ i _ => 64 - (intOf i).toNat)
  case atStart => exact ⟨0, 0, _, by omega, rfl, rfl, hr0, hl1, hb0⟩
  case round =>
    clear hr0 hl1 hb0
    obtain ⟨k, c2, ad2, hk, rfl, rfl, hrow, hl, hb⟩ := hrel
    by_cases hk64 : k < 64
    · obtain ⟨hp, hplt⟩ := prime_at k hk64
      have hcell := owns_cell hl k _ hp
      have hct := cubes_take k hk64
      obtain ⟨p, hpe⟩ : ∃ p, p = (primesTo 310).getD k 0 := ⟨_, rfl⟩
      rw [← hpe] at hplt hcell hct
      have cc := fun w' => cube_any p (by omega) w'
      obtain ⟨z, hz⟩ : ∃ z, z = cubeW p := ⟨_, rfl⟩
      simp only [← hz] at cc
      rw [← hz] at hct
      have hkd : decide ((k : Int) < 64) = true := by simp; omega
      have hki : (k : Int) < 64 := by omega
      have hk0 : (0 : Int) ≤ (k : Int) := Int.natCast_nonneg _
      clear hp hplt hpe hz
      replace cc := Lib.hid cc; replace hrow := Lib.hid hrow; replace hl := Lib.hid hl; replace hb := Lib.hid hb; replace hct := Lib.hid hct
      go_wp2_with (first
        | (go_at_call 72; (with_reducible refine (cc.out _).mono ?_); rintro e w2 ⟨rfl, b2⟩; replace hrow := Lib.hid (owns_below hrow.out b2); replace hl := Lib.hid (owns_below hl.out b2); replace hb := Lib.hid (belowCont hb.out b2); clear b2)
        | (at_builtin; refine wpList_append_u32 rfl _ _ rfl w.heap.size _ k _ rfl (hrow.out.alloc _) _ _ _ rfl (newCell _ _ _ 0) ?ha ?hb ?_; (case ha => omega); (case hb => have := hb.out.size; simp; omega); intro v2 w3 hrow2 hgrow2; replace hl := Lib.hid (owns_grown (hl.out.alloc _) (by decide) (hrow.out.alloc _) (by decide) hgrow2); replace hb := Lib.hid ((hb.out.alloc hb.out.size _).grown hgrow2 (by have := hb.out.size; simp; omega) (fun b hb => (World.ownsRow.lt hrow.out b hb).1)); replace hrow2 := Lib.hid hrow2; clear hgrow2))
      obtain ⟨ad3, c3, rfl⟩ := owns_form hrow2.out
      go_roundw
      case rel => exact ⟨k + 1, c3, ad3, by omega, by go_num, rfl, by rw [hct.out, List.map_append]; exact hrow2.out, hl.out, hb.out⟩
      case measure => simp [intOf]; omega
    · obtain rfl : k = 64 := by omega
      have e : cubesL.take 64 = sha.salts := by rw [← cubes_known]; exact List.take_of_length_le (by unfold cubesL; rw [List.length_map, to_310]; decide)
      rw [e] at hrow
      clear e hl hk hk64
      replace hrow := Lib.hid hrow; replace hb := Lib.hid hb
      go_wp2
      go_ret
      exact ⟨_, rfl, hrow.out, hb.out⟩
end Go.Proofs.YtebhdlecekjhgaaDoor.roots
