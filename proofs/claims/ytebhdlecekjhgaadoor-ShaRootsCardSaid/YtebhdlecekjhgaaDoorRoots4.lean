/- What the salts are made of: primes, Salts. No condition. -/
import Derived.Test.YtebhdlecekjhgaaDoorRoots3
namespace Go.Proofs.YtebhdlecekjhgaaDoor.roots
open Go.RowKit
attribute [local go_sem ↓] Go.wp_at_zero Go.wp_at_succ
set_option linter.unusedVariables false
set_option maxRecDepth 100000

def pre (l : List Nat) (n m : Nat) : Bool := (l.take m).all (fun p => n % p != 0)
def primeStep (l : List Nat) (n : Nat) : List Nat := if l.all (fun p => n % p != 0) then l ++ [n] else l
def primesTo : Nat → List Nat
  | 0 => []
  | k + 1 => primeStep (primesTo k) (k + 2)
theorem pre_step (l : List Nat) (n m : Nat) (h : m < l.length) : pre l n (m + 1) = (pre l n m && (n % l.getD m 0 != 0)) := by
  unfold pre
  rw [List.take_succ_eq_append_getElem h, List.all_append]
  simp [List.getD, List.getElem?_eq_getElem h]
theorem pre_all (l : List Nat) (n : Nat) : pre l n l.length = l.all (fun p => n % p != 0) := by unfold pre; rw [List.take_length]
theorem step_le (l : List Nat) (n : Nat) : l.length ≤ (primeStep l n).length ∧ (primeStep l n).length ≤ l.length + 1 := by
  unfold primeStep; split
  · simp
  · simp
theorem to_mono : ∀ (k j : Nat), (primesTo k).length ≤ (primesTo (k + j)).length
  | k, 0 => Nat.le_refl _
  | k, j + 1 => Nat.le_trans (to_mono k j) (step_le _ _).1
theorem to_309 : (primesTo 309).length = 63 := by decide +kernel
theorem to_310 : (primesTo 310).length = 64 := by decide +kernel
theorem to_below (k : Nat) (h : k < 310) : (primesTo k).length < 64 := by
  have := to_mono k (309 - k)
  rw [show k + (309 - k) = 309 by omega, to_309] at this
  omega
theorem to_ge (k : Nat) : ∀ p ∈ primesTo k, 2 ≤ p ∧ p < k + 2 := by
  induction k with
  | zero => intro p hp; cases hp
  | succ k ih =>
    intro p hp
    have hp' : p ∈ primeStep (primesTo k) (k + 2) := hp
    unfold primeStep at hp'
    split at hp'
    · rcases List.mem_append.1 hp' with h | h
      · have := ih p h; omega
      · simp at h; omega
    · have := ih p hp'; omega
theorem to_getD (k m : Nat) (h : m < (primesTo k).length) : 2 ≤ (primesTo k).getD m 0 ∧ (primesTo k).getD m 0 < k + 2 := by
  have : (primesTo k).getD m 0 = (primesTo k)[m] := by simp [List.getD, List.getElem?_eq_getElem h]
  rw [this]; exact to_ge k _ (List.getElem_mem h)

theorem u64Info : (Tryd.prog.info? 51).map (fun i => (i.zero, i.size, i.bytes)) = some (some (.int .u64 0), 1, 8) := by kernel_rfl
theorem u32Info : (Tryd.prog.info? 26).map (fun i => (i.zero, i.size, i.bytes)) = some (some (.int .u32 0), 1, 4) := by kernel_rfl
theorem wpList_append_u64 {w : World} {ops : Array Oper} {rest : List Oper} {o : Oper} {a : Act} {Q : Exit → Act → World → Prop} (hgd : o.guard = none) (s x : Operand)
    (ho : o.op = .call { callee := .builtin .append, args := #[s, x], argTypes := #[102, 102] })
    (base : Nat) (v : Value) (n : Nat) (xs : List Value) (hs : a.eval s = v) (hown : w.ownsRow base 51 1 v n xs) (g c : Nat) (z : Int) (hx : a.eval x = .slice (some ⟨g, 0, none⟩) 1 c) (hc : w.cell? ⟨g, 0, none⟩ = some (.int .u64 z))
    (hl : n < 1000000) (hbase : base ≤ w.heap.size)
    (h : ∀ v' w', w'.ownsRow base 51 1 v' (n + 1) (xs ++ [.int .u64 z]) → w.grownBy w' v.ownBlock → wpList Tryd.prog ops Q rest (a.put o.dst v') w') : wpList Tryd.prog ops Q (o :: rest) a w := by
  obtain ⟨i, hi, hz, hsz, hby⟩ := info_parts u64Info
  refine wpList_append_own w hgd s x 102 ho base 51 i (.int .u64 0) 1 8 Tryd.underlying102 hi hz hsz hby rfl (by decide) v n xs hs hown ⟨g, 0, none⟩ 1 c [.int .u64 z] hx rfl ?_ ?_ ?_ ?_ hbase ?_
  · intro j u hj
    match j, hj with
    | 0, hj => simp at hj; subst hj; simpa [Addr.add] using hc
  · intro u hu; simp at hu; subst hu; rfl
  · unfold maxLen; omega
  · omega
  · intro v' w' h1 h2 _
    exact h v' w' h1 h2
theorem wpList_append_u32 {w : World} {ops : Array Oper} {rest : List Oper} {o : Oper} {a : Act} {Q : Exit → Act → World → Prop} (hgd : o.guard = none) (s x : Operand)
    (ho : o.op = .call { callee := .builtin .append, args := #[s, x], argTypes := #[57, 57] })
    (base : Nat) (v : Value) (n : Nat) (xs : List Value) (hs : a.eval s = v) (hown : w.ownsRow base 26 1 v n xs) (g c : Nat) (z : Int) (hx : a.eval x = .slice (some ⟨g, 0, none⟩) 1 c) (hc : w.cell? ⟨g, 0, none⟩ = some (.int .u32 z))
    (hl : n < 1000000) (hbase : base ≤ w.heap.size)
    (h : ∀ v' w', w'.ownsRow base 26 1 v' (n + 1) (xs ++ [.int .u32 z]) → w.grownBy w' v.ownBlock → wpList Tryd.prog ops Q rest (a.put o.dst v') w') : wpList Tryd.prog ops Q (o :: rest) a w := by
  obtain ⟨i, hi, hz, hsz, hby⟩ := info_parts u32Info
  refine wpList_append_own w hgd s x 57 ho base 26 i (.int .u32 0) 1 4 Tryd.underlying57 hi hz hsz hby rfl (by decide) v n xs hs hown ⟨g, 0, none⟩ 1 c [.int .u32 z] hx rfl ?_ ?_ ?_ ?_ hbase ?_
  · intro j u hj
    match j, hj with
    | 0, hj => simp at hj; subst hj; simpa [Addr.add] using hc
  · intro u hu; simp at hu; subst hu; rfl
  · unfold maxLen; omega
  · omega
  · intro v' w' h1 h2 _
    exact h v' w' h1 h2
/-- an empty slice that was made -/
theorem owns_empty (w : World) (t : TypeId) (s : Nat) : (w.alloc (.cells #[] t)).ownsRow w.heap.size t s (.slice (some ⟨w.heap.size, 0, none⟩) 0 0) 0 [] :=
  ⟨by simp, Or.inr ⟨w.heap.size, 0, #[], rfl, Nat.le_refl _, heap_alloc_new w _, by omega, by unfold maxLen; omega, by simp, by simp⟩⟩
theorem owns_below {w W : World} {base : Nat} {t : TypeId} {s : Nat} {v : Value} {n : Nat} {xs : List Value} (h : w.ownsRow base t s v n xs) (k : Below w.heap.size w W) : W.ownsRow base t s v n xs := by
  refine World.ownsRow.kept h (row := none) ⟨k.os, k.tape, k.output, k.size, fun i hi _ => k.block i hi⟩ ?_
  cases hv : v.ownBlock with
  | none => exact Or.inl rfl
  | some b => exact Or.inr (by simp)
theorem owns_form {w : World} {base : Nat} {t : TypeId} {s : Nat} {v : Value} {n : Nat} {xs : List Value} (h : w.ownsRow base t s v n xs) : ∃ ad c, v = .slice ad n c := by
  rcases h.2 with ⟨rfl, rfl⟩ | ⟨g, cap, cur, rfl, _⟩
  · exact ⟨none, 0, rfl⟩
  · exact ⟨_, _, rfl⟩
theorem map_at (P : List Nat) (m : Nat) (h : m < P.length) : (P.map dw)[m]? = some (dw (P.getD m 0)) := by
  rw [List.getElem?_map]; simp [List.getElem?_eq_getElem h, List.getD]
theorem owns_at {w : World} {base : Nat} {t : TypeId} {ad : Option Addr} {n c : Nat} {xs : List Value} (h : w.ownsRow base t 1 (.slice ad n c) n xs) (hn : 0 < n) :
    ∃ g, ad = some ⟨g, 0, none⟩ ∧ ∀ j u, xs[j]? = some u → w.cell? ⟨g, j, none⟩ = some u := by
  rcases h.2 with ⟨_, h0⟩ | ⟨g, cap, cur, hv, _⟩
  · omega
  · injection hv with hv1 _ _
    refine ⟨g, hv1, fun j u hu => ?_⟩
    have := World.ownsRow.cells h (g := g) (by simp [Value.ownBlock, hv1]) j u hu
    have hadd : (⟨g, 0, none⟩ : Addr).add j = ⟨g, j, none⟩ := by unfold Addr.add; split <;> simp_all
    rwa [hadd] at this
set_option maxHeartbeats 4000000 in
theorem primes_any (w : World) :
    Calls Tryd.prog 71 #[] w fun e w' => ∃ v, e = .returned v ∧ w'.ownsRow w.heap.size 51 1 v 64 ((primesTo 310).map dw) ∧ Below w.heap.size w w' := by
  go_enter Tryd.func71, Tryd.ntmps71
  go_wp2
  go_loopw [1, 2, 3, 4] (fun v n is i wr => ∃ (k L c : Nat) (ad : Option Addr), k ≤ 310 ∧ L = (primesTo k).length ∧ v = .slice ad L c ∧ n = .int .u64 ((k + 2 : Nat) : Int) ∧ wr.ownsRow w.heap.size 51 1 (.slice ad L c) L ((primesTo k).map dw) ∧ Below w.heap.size w wr) (fun _ n _ _ _ => 400 - (intOf n).toNat)
  case atStart => exact ⟨0, 0, 0, _, by omega, rfl, rfl, rfl, owns_empty w _ _, (Below.refl _ _).alloc (Nat.le_refl _) _⟩
  case round =>
    obtain ⟨k, L, c, ad, hk, hL, rfl, rfl, hrow, hb⟩ := hrel
    by_cases h310 : k = 310
    · subst h310
      rw [to_310] at hL
      subst hL
      replace hrow := Lib.hid hrow; replace hb := Lib.hid hb
      go_wp2
      go_ret
      exact ⟨_, rfl, hrow.out, hb.out⟩
    · have hL64 := to_below k (by omega)
      rw [← hL] at hL64
      have hlt : decide ((L : Int) < 64) = true := by simp; omega
      have hltn : decide (L < 64) = true := by simp; omega
      obtain ⟨N, hN⟩ : ∃ N, N = k + 2 := ⟨_, rfl⟩
      have hstep : primesTo (k + 1) = primeStep (primesTo k) (k + 2) := rfl
      have hps := pre_step (primesTo k) N
      have hpa := pre_all (primesTo k) N
      have hgd := to_getD k
      rw [← hN] at hstep hgd ⊢
      rw [← hL] at hpa
      rw [← hL] at hgd
      simp only [← hL] at hps
      obtain ⟨P, hP⟩ : ∃ P, P = primesTo k := ⟨_, rfl⟩
      rw [← hP] at hstep hpa hgd hL hrow
      simp only [← hP] at hps
      have hN2 : N < 400 := by omega
      replace hstep := Lib.hid hstep; replace hpa := Lib.hid hpa; replace hgd := Lib.hid hgd; replace hps := Lib.hid hps; replace hL := Lib.hid hL; replace hb := Lib.hid hb; replace hrow := Lib.hid hrow; replace hN := Lib.hid hN; replace hN2 := Lib.hid hN2; replace hk := Lib.hid hk; replace hL64 := Lib.hid hL64
      clear hP
      go_upto_region 7 with (fail)
      go_loop [3, 4] (fun is i => ∃ m : Nat, m ≤ L ∧ i = .int .i64 m ∧ is = .bool (pre P N m)) (fun _ i => L - (intOf i).toNat)
      case atStart => exact ⟨0, by omega, rfl, rfl⟩
      case round =>
        obtain ⟨m, hm, rfl, rfl⟩ := hrel
        by_cases hml : m < L
        · obtain ⟨g, rfl, hcell⟩ := owns_at hrow.out (by omega)
          obtain ⟨hp1, hp2⟩ := hgd.out m hml
          have hst := hps.out m hml
          have hc := hcell m (dw (P.getD m 0)) (map_at P m (by rw [← hL.out]; exact hml))
          clear hcell
          obtain ⟨p, hp⟩ : ∃ p, p = P.getD m 0 := ⟨_, rfl⟩
          rw [← hp] at hp1 hp2 hst hc
          unfold dw at hc
          obtain ⟨r, hr⟩ : ∃ r, r = N % p := ⟨_, rfl⟩
          rw [← hr] at hst
          have e1 : (N : Int) % (p : Int) = (r : Int) := by rw [hr]; simp
          have hrl : r < 400 := by have := Nat.mod_lt N (show 0 < p by omega); have := hN2.out; omega
          have e2 : IntKind.u64.wrap (r : Int) = (r : Int) := IntWalk.u64_in _ (by omega)
          have e3 : (p : Int) ≠ 0 := by omega
          have e4 : (0 : Int) ≤ (p : Int) := by omega
          have e5 : (0 : Int) ≤ (N : Int) := Int.natCast_nonneg _
          have e6 : ((p : Int) == 0) = false := by simp; omega
          have hmd : decide ((m : Int) < (L : Int)) = true := by simp; omega
          have hmdn : decide (m < L) = true := by simp; omega
          have hm0 : (0 : Int) ≤ (m : Int) := Int.natCast_nonneg _
          have hmi : (m : Int) < (L : Int) := by omega
          have hm64 : (m : Int) < 64 := by have := hL64.out; omega
          obtain ⟨b, hbb⟩ : ∃ b, b = pre P N m := ⟨_, rfl⟩
          rw [← hbb] at hst ⊢
          clear hbb hp hr hp1 hp2
          replace hst := Lib.hid hst; replace hrl := Lib.hid hrl; replace hm := Lib.hid hm
          cases b with
          | false =>
            go_wp2
            go_round
            case rel => exact ⟨m + 1, by omega, by go_num, by rw [hst.out]; rfl⟩
            case measure => simp [intOf]; omega
          | true =>
            by_cases hr0 : r = 0
            · subst hr0
              go_wp2
              go_round
              case rel => exact ⟨m + 1, by omega, by go_num, by rw [hst.out]; rfl⟩
              case measure => simp [intOf]; omega
            · have f1 : ((r : Int) == 0) = false := by simp; omega
              have f2 : ((r : Int) != 0) = true := by simp; omega
              have f3 : (r != 0) = true := by simp; omega
              clear hr0
              go_wp2
              go_round
              case rel => exact ⟨m + 1, by omega, by go_num, by rw [hst.out, f3]; rfl⟩
              case measure => simp [intOf]; omega
        · obtain rfl : m = L := by omega
          have hmd : decide ((m : Int) < (m : Int)) = false := by simp
          have hpm := hpa.out
          have hsz : N < 18446744073709551616 := by have := hN2.out; omega
          have hw : IntKind.u64.wrap (N : Int) = (N : Int) := IntWalk.u64_in _ (by omega)
          have e1 : (N : Int) + 1 = ((N + 1 : Nat) : Int) := by simp
          have e2 : IntKind.u64.wrap ((N + 1 : Nat) : Int) = ((N + 1 : Nat) : Int) := IntWalk.u64_in _ (by have := hN2.out; omega)
          have hNi : (N : Int) < 400 := by have := hN2.out; omega
          have hN0 : (0 : Int) ≤ (N : Int) := Int.natCast_nonneg _
          cases hall : P.all (fun p => N % p != 0) with
          | true =>
            rw [hall] at hpm
            have hst : primesTo (k + 1) = P ++ [N] := by rw [hstep.out]; unfold primeStep; rw [hall]; rfl
            rw [hpm]
            clear hpm hml hm hall e1 e2
            replace hst := Lib.hid hst
            go_wp2_with (at_builtin; refine wpList_append_u64 rfl _ _ rfl w.heap.size _ m _ rfl (hrow.out.alloc _) _ _ _ rfl (newCell _ _ _ 0) ?ha ?hb ?_; (case ha => have := hL64.out; omega); (case hb => have := hb.out.size; simp; omega); intro v2 w2 hrow2 hgrow2; have hb2 := (hb.out.alloc hb.out.size _).grown hgrow2 (by have := hb.out.size; simp; omega) (fun b hb => (World.ownsRow.lt hrow.out b hb).1); replace hrow2 := Lib.hid hrow2; replace hb2 := Lib.hid hb2; clear hgrow2)
            obtain ⟨ad2, c2, rfl⟩ := owns_form hrow2.out
            go_roundw
            case rel => exact ⟨k + 1, m + 1, c2, ad2, by have := hk.out; omega, by rw [hst.out, List.length_append, ← hL.out]; rfl, rfl, by rw [hN.out]; go_num, by rw [hst.out, List.map_append]; exact hrow2.out, hb2.out⟩
            case measure => simp [intOf]; omega
          | false =>
            rw [hall] at hpm
            have hst : primesTo (k + 1) = P := by rw [hstep.out]; unfold primeStep; rw [hall]; rfl
            rw [hpm]
            clear hpm hml hm hall e1 e2
            replace hst := Lib.hid hst
            go_wp2
            go_roundw
            case rel => exact ⟨k + 1, m, c, ad, by have := hk.out; omega, by rw [hst.out]; exact hL.out, rfl, by rw [hN.out]; go_num, by rw [hst.out]; exact hrow.out, hb.out⟩
            case measure => simp [intOf]; omega
end Go.Proofs.YtebhdlecekjhgaaDoor.roots
