/- SHA-256 (package sha): the sum of bytes. The table of salts is a premise. No other condition. -/
import Derived.Test.YtplfbpihhcnnmaaDoorSha3
import Derived.Test.YtplfbpihhcnnmaaDoorSha4
import Derived.Test.YtplfbpihhcnnmaaDoorSha5
import Derived.StillTailTactics
namespace Go.Proofs.YtplfbpihhcnnmaaDoor.sha
open Go.RowKit
attribute [local go_sem ↓] Go.wp_at_zero Go.wp_at_succ
set_option linter.unusedVariables false
set_option maxRecDepth 100000

theorem still_load_words {ops : Array Oper} {rest : List Oper} {o : Oper} {a : Act} {w : World} {Q : Act → Prop} {t n m e : Nat} (hi : (Tryd.prog.info? t).map (·.size) = some n) (hu : Tryd.prog.underlying t = some (.array m e)) (hgd : o.guard = none) (x : Operand) (ho : o.op = .load t x) (g : Nat) (xs : List Nat)
    (hx : a.eval x = .pointer (some ⟨g, 0, none⟩)) (hW : Words w g t xs) (hl : xs.length = n)
    (h : wpStill Tryd.prog ops w Q rest (a.put o.dst (.agg (xs.map word).toArray))) : wpStill Tryd.prog ops w Q (o :: rest) a := by
  have hs : ((xs.map word).toArray).size = n := by simp [hl]
  have hwant : Region.wanted o (yielded ops a.tmps) = true := by simp [Region.wanted, hgd]
  have hrun : (execOp a.eval o).run Tryd.prog w = .ok (.value (.agg (xs.map word).toArray)) w := by
    have := run_loadVar_row (P := Tryd.prog) w g t t _ (0, 0) _ hW hu rfl (by rw [hs]; exact hi)
    simp [execOp, ho, hx, Instr.loadAt, Instr.sureAddr, this, Result.andThen]
  show (if Region.wanted o (yielded ops a.tmps) then o.still Tryd.prog a w _ else _)
  rw [if_pos hwant]
  unfold Oper.still
  rw [hrun, Oper.stillUpon_value]
  exact h

def H0 : List Nat := [1779033703, 3144134277, 1013904242, 2773480762, 1359893119, 2600822924, 528734635, 1541459225]
theorem H0_good : H0.length = 8 ∧ Small H0 := by
  refine ⟨rfl, fun i => ?_⟩
  match i with
  | 0 | 1 | 2 | 3 | 4 | 5 | 6 | 7 => decide
  | i + 8 => simp [H0, List.getD]
/-- the bytes of a text behind its whole blocks -/
def restL (l : List UInt8) : List UInt8 := l.drop (64 * (l.length / 64))
/-- the sum of bytes -/
def shaB (ss : List Nat) (l : List UInt8) : List UInt8 := outB (hashL ss (hashL ss H0 l (l.length / 64)) (filledL (restL l) l.length) (lastZ (restL l) / 64)) 8
theorem shaB_len (ss : List Nat) (l : List UInt8) : (shaB ss l).length = 32 := outB_len _ _
set_option maxRecDepth 100000 in
set_option maxHeartbeats 8000000 in
theorem sum_any (ss : List Nat) (hss : Small ss) (l : List UInt8) (hl : l.length ≤ 1000000000) (w : World) (hT : SaltAt w ss) :
    Calls Tryd.prog 125 #[.string (str l)] w fun e w' => e = .returned (.string (str (shaB ss l))) ∧ Below w.heap.size w w' := by
  obtain ⟨S0, hS0⟩ : ∃ S, S = str l := ⟨_, rfl⟩
  have hSs : S0.size = l.length := by rw [hS0, str_size]
  have hext : ∀ a b, S0.extract a b = str ((l.drop a).take (b - a)) := fun a b => by rw [hS0]; exact cut_extract l a b
  obtain ⟨m, hm⟩ : ∃ m, m = l.length / 64 := ⟨_, rfl⟩
  obtain ⟨r, hr⟩ : ∃ r, r = restL l := ⟨_, rfl⟩
  have hrl : r.length < 64 := by rw [hr, restL, List.length_drop]; omega
  have hrest : S0.extract (64 * m) l.length = str r := by
    rw [hext, hr, restL, ← hm, List.take_of_length_le (by rw [List.length_drop]; exact Nat.le_refl _)]
  obtain ⟨R, hR⟩ : ∃ R, R = filledL r l.length := ⟨_, rfl⟩
  obtain ⟨nz, hnz⟩ : ∃ nz, nz = lastZ r / 64 := ⟨_, rfl⟩
  have hRl : R.length = 64 * nz := by
    rw [hR, filledL_len r _ hrl, hnz]; unfold lastZ; split <;> omega
  obtain ⟨H1, hH1⟩ : ∃ H, H = hashL ss H0 l m := ⟨_, rfl⟩
  have hg1 : H1.length = 8 ∧ Small H1 := by rw [hH1]; exact hashL_good ss H0_good l m
  have hfin : shaB ss l = outB (hashL ss H1 R nz) 8 := by rw [hH1, hR, hnz, hm, hr]; rfl
  have hfil := fun w' => filled_any r hrl l.length (by omega) w'
  rw [← hR] at hfil
  have hwri := fun w' => written_any (hashL ss H1 R nz) (hashL_good ss hg1 R nz).1 (hashL_good ss hg1 R nz).2 w'
  rw [← hfin] at hwri
  obtain ⟨T0, hT0⟩ : ∃ T, T = str R := ⟨_, rfl⟩
  have hTs : T0.size = 64 * nz := by rw [hT0, str_size, hRl]
  have hextR : ∀ a b, T0.extract a b = str ((R.drop a).take (b - a)) := fun a b => by rw [hT0]; exact cut_extract R a b
  rw [← hT0] at hfil
  have hrem : (l.length : Int) % 64 = (l.length : Int) - 64 * (m : Int) := by omega
  have hrem2 : (l.length : Int).tmod 64 = (l.length : Int) - 64 * (m : Int) := by rw [IntWalk.rem_in _ _ (by omega)]; exact hrem
  have hsub : (l.length : Int) - ((l.length : Int) - 64 * (m : Int)) = 64 * (m : Int) := by omega
  have hw1 : IntKind.i64.wrap (64 * (m : Int)) = 64 * (m : Int) := by rw [IntKind.wrap_i64]; omega
  have hnz2 : nz ≤ 2 := by rw [hnz]; unfold lastZ; split <;> omega
  have hm0 : (0 : Int) ≤ 64 * (m : Int) := by omega
  have hml : 64 * (m : Int) ≤ (l.length : Int) := by omega
  have hu64 : (l.length : Int) % 18446744073709551616 = (l.length : Int) := by omega
  have hu64b : IntKind.u64.wrap (l.length : Int) = (l.length : Int) := by rw [IntKind.wrap_u64]; omega
  rw [← hS0]
  clear hS0 hT0 hR hr hfin
  replace hH1 := Lib.hid hH1; replace hnz := Lib.hid hnz; replace hm := Lib.hid hm; replace hrl := Lib.hid hrl
  replace hfil := Lib.hid hfil; replace hwri := Lib.hid hwri; replace hext := Lib.hid hext; replace hextR := Lib.hid hextR
  replace hg1 := Lib.hid hg1; replace hT := Lib.hid hT; replace hss := Lib.hid hss; replace hl := Lib.hid hl; replace hRl := Lib.hid hRl; replace hnz2 := Lib.hid hnz2
  replace hrem := Lib.hid hrem
  go_enter Tryd.func125, Tryd.ntmps125
  go_wp2_with (refine wpList_store_words eight8 rfl (.tmp 3) (.tmp 8) rfl w.heap.size H0 rfl rfl rfl ⟨_, heap_alloc_new _ _, rfl⟩ ?_; intro w3 W3 K3; replace K3 := Lib.hid K3; replace W3 := Lib.hid W3)
  have hB3 : Below w.heap.size w w3 := ((Below.refl _ w).alloc (Nat.le_refl _) _).trans (K3.out.below (by simp) (by simp))
  replace hB3 := Lib.hid hB3
  clear K3
  go_loopg [5] m (fun gn s5 wr => ∃ k : Nat, s5 = .int .i64 (64 * (k : Int)) ∧ k + gn = m ∧ Words wr w.heap.size 112 (hashL ss H0 l k) ∧ Below w.heap.size w wr)
  case atStart => exact ⟨0, rfl, by omega, W3.out, hB3.out⟩
  case round =>
    clear W3 hB3
    obtain ⟨k, rfl, hk, hW, hB⟩ := hrel
    by_cases h0 : gk = 0
    · obtain rfl : k = m := by omega
      rw [← hH1.out] at hW
      have hlt : ¬ (64 * (k : Int) < 64 * (k : Int)) := by omega
      replace hW := Lib.hid hW
      replace hB := Lib.hid hB
      clear hk h0
      go_wp2_with (go_at_call 152; (with_reducible refine (hfil.out _).mono ?_); rintro e w4 ⟨rfl, b4⟩; replace hW := Lib.hid (hW.out.below b4); replace hB := Lib.hid (belowCont hB.out b4); replace b4 := Lib.hid b4)
      go_loopg [7] nz (fun gn s7 wr => ∃ k : Nat, s7 = .int .i64 (64 * (k : Int)) ∧ k + gn = nz ∧ Words wr w.heap.size 112 (hashL ss H1 R k) ∧ Below w.heap.size w wr)
      case atStart => exact ⟨0, rfl, by omega, hW.out, hB.out⟩
      case round =>
        clear hW hB
        obtain ⟨j, rfl, hj, hW, hB⟩ := hrel
        by_cases h0 : gk = 0
        · obtain rfl : j = nz := by omega
          have hlt2 : ¬ (64 * (j : Int) < 64 * (j : Int)) := by omega
          have hgj := (hashL_good ss hg1.out R j).1
          obtain ⟨ys, hys⟩ : ∃ ys, ys = hashL ss H1 R j := ⟨_, rfl⟩
          have hwri2 := hwri.out
          rw [← hys] at hW hgj hwri2
          replace hW := Lib.hid hW
          replace hB := Lib.hid hB
          replace hgj := Lib.hid hgj
          replace hwri2 := Lib.hid hwri2
          clear hj h0 hys
          go_wp2_with (first
            | (refine wpList_load_words eight8 Tryd.underlying112 rfl (.tmp 3) rfl w.heap.size ys rfl hW.out hgj.out ?_)
            | (go_at_call 153; (with_reducible refine (hwri2.out _).mono ?_); rintro e w4 ⟨rfl, b4⟩; replace hB := Lib.hid (belowCont hB.out b4)))
          go_ret
          exact ⟨rfl, hB.out⟩
        · obtain ⟨K, rfl⟩ : ∃ K : Nat, gk = K + 1 := ⟨gk - 1, by omega⟩
          have k0 : (0 : Int) ≤ 64 * (j : Int) := by omega
          have k1 : 64 * (j : Int) < 64 * (nz : Int) := by omega
          have k2 : 64 * (j : Int) + 64 ≤ 64 * (nz : Int) := by omega
          have k3 : 64 * (j : Int) ≤ 64 * (j : Int) + 64 := by omega
          have k5 : IntKind.i64.wrap (64 * (j : Int) + 64) = 64 * (j : Int) + 64 := by have := hl.out; have := hnz2.out; rw [IntKind.wrap_i64]; omega
          obtain ⟨blk, hblk⟩ : ∃ b, b = str ((R.drop (64 * j)).take 64) := ⟨_, rfl⟩
          have hbs : blk.size = 64 := by rw [hblk, str_size, List.length_take, List.length_drop]; have := hRl.out; omega
          have hcut : T0.extract (64 * j) (64 * j + 64) = blk := by rw [hextR.out, hblk, show 64 * j + 64 - 64 * j = 64 by omega]
          have hgk := hashL_good ss hg1.out R j
          obtain ⟨ys, hys⟩ : ∃ ys, ys = hashL ss H1 R j := ⟨_, rfl⟩
          have hnext : hashL ss H1 R (j + 1) = mixedL ss ys blk := by rw [hys, hblk]; rfl
          rw [← hys] at hgk hW
          have hmix := fun w' hs => mixed_any ss ys blk hgk.1 hgk.2 hbs w' hs hss.out
          rw [← hnext] at hmix
          obtain ⟨zs, hzs⟩ : ∃ zs, zs = hashL ss H1 R (j + 1) := ⟨_, rfl⟩
          have hgz := (hashL_good ss hg1.out R (j + 1)).1
          rw [← hzs] at hmix hgz
          have hlen := hgk.1
          have hk2 := Lib.hid hj
          have hSalt := hT.out.keep hB
          clear hgk hnext hys hblk hj h0
          replace hzs := Lib.hid hzs; replace hmix := Lib.hid hmix; replace hlen := Lib.hid hlen; replace hgz := Lib.hid hgz; replace hSalt := Lib.hid hSalt; replace hbs := Lib.hid hbs
          replace hW := Lib.hid hW; replace hB := Lib.hid hB
          go_upto_region 11 with fail
          refine wp_region_still_tail 6 (by kernel_rfl) (by kernel_rfl) ?_
          simp only [List.take_succ_cons, List.take_zero, List.drop_succ_cons, List.drop_zero]
          refine still_load_words eight8 Tryd.underlying112 rfl (.tmp 3) rfl w.heap.size ys rfl hW.out hlen.out ?_
          repeat still_step
          try refine wpStill_nil ?_
          change wpList _ _ _ _ _ wr.drew
          have hW2 : Words wr.drew w.heap.size 112 ys := hW.out
          have hB2 : Below w.heap.size w wr.drew := hB.out.drew
          have hS2 : SaltAt wr.drew ss := hSalt.out
          generalize wr.drew = wd at *
          replace hW2 := Lib.hid hW2; replace hB2 := Lib.hid hB2; replace hS2 := Lib.hid hS2
          clear hW hB hSalt
          go_wp2_with (first
            | (go_at_call 151; (try rw [hcut]); (with_reducible refine (hmix.out _ hS2.out).mono ?_); rintro e w4 ⟨rfl, b4⟩; replace hW2 := Lib.hid (hW2.out.below b4); replace hB2 := Lib.hid (belowCont hB2.out b4))
            | (refine wpList_store_words eight8 rfl (.tmp 3) (.tmp 46) rfl w.heap.size zs rfl rfl hgz.out ⟨_, hW2.out, by simp [hlen.out]⟩ ?_; intro w5 W5 K5; replace W5 := Lib.hid W5; replace hB2 := Lib.hid (hB2.out.trans (K5.below hB2.out.size (by simp))); clear K5))
          go_roundg K
          case measure => omega
          case rel => exact ⟨j + 1, by rw [show 64 * (j : Int) + 64 = 64 * ((j + 1 : Nat) : Int) by omega], by have := hk2.out; omega, by rw [← hzs.out]; exact W5.out, hB2.out⟩
    · obtain ⟨K, rfl⟩ : ∃ K : Nat, gk = K + 1 := ⟨gk - 1, by omega⟩
      have k0 : (0 : Int) ≤ 64 * (k : Int) := by omega
      have k1 : 64 * (k : Int) < 64 * (m : Int) := by omega
      have k2 : 64 * (k : Int) + 64 ≤ (l.length : Int) := by omega
      have k3 : 64 * (k : Int) ≤ 64 * (k : Int) + 64 := by omega
      have k5 : IntKind.i64.wrap (64 * (k : Int) + 64) = 64 * (k : Int) + 64 := by have := hl.out; have := hnz2.out; rw [IntKind.wrap_i64]; omega
      obtain ⟨blk, hblk⟩ : ∃ b, b = str ((l.drop (64 * k)).take 64) := ⟨_, rfl⟩
      have hbs : blk.size = 64 := by rw [hblk, str_size, List.length_take, List.length_drop]; have := hm.out; omega
      have hcut : S0.extract (64 * k) (64 * k + 64) = blk := by rw [hext.out, hblk, show 64 * k + 64 - 64 * k = 64 by omega]
      have hgk := hashL_good ss H0_good l k
      obtain ⟨ys, hys⟩ : ∃ ys, ys = hashL ss H0 l k := ⟨_, rfl⟩
      have hnext : hashL ss H0 l (k + 1) = mixedL ss ys blk := by rw [hys, hblk]; rfl
      rw [← hys] at hgk hW
      have hmix := fun w' hs => mixed_any ss ys blk hgk.1 hgk.2 hbs w' hs hss.out
      rw [← hnext] at hmix
      obtain ⟨zs, hzs⟩ : ∃ zs, zs = hashL ss H0 l (k + 1) := ⟨_, rfl⟩
      have hgz := (hashL_good ss H0_good l (k + 1)).1
      rw [← hzs] at hmix hgz
      have hlen := hgk.1
      have hk2 := Lib.hid hk
      have hSalt := hT.out.keep hB
      clear hgk hnext hys hblk hk h0
      replace hzs := Lib.hid hzs; replace hmix := Lib.hid hmix; replace hlen := Lib.hid hlen; replace hgz := Lib.hid hgz; replace hSalt := Lib.hid hSalt; replace hbs := Lib.hid hbs
      replace hW := Lib.hid hW; replace hB := Lib.hid hB
      go_upto_region 6 with fail
      refine wp_region_still_tail 6 (by kernel_rfl) (by kernel_rfl) ?_
      simp only [List.take_succ_cons, List.take_zero, List.drop_succ_cons, List.drop_zero]
      refine still_load_words eight8 Tryd.underlying112 rfl (.tmp 3) rfl w.heap.size ys rfl hW.out hlen.out ?_
      repeat still_step
      try refine wpStill_nil ?_
      change wpList _ _ _ _ _ wr.drew
      have hW2 : Words wr.drew w.heap.size 112 ys := hW.out
      have hB2 : Below w.heap.size w wr.drew := hB.out.drew
      have hS2 : SaltAt wr.drew ss := hSalt.out
      generalize wr.drew = wd at *
      replace hW2 := Lib.hid hW2; replace hB2 := Lib.hid hB2; replace hS2 := Lib.hid hS2
      clear hW hB hSalt
      go_wp2_with (first
        | (go_at_call 151; (try rw [hcut]); (with_reducible refine (hmix.out _ hS2.out).mono ?_); rintro e w4 ⟨rfl, b4⟩; replace hW2 := Lib.hid (hW2.out.below b4); replace hB2 := Lib.hid (belowCont hB2.out b4))
        | (refine wpList_store_words eight8 rfl (.tmp 3) (.tmp 26) rfl w.heap.size zs rfl rfl hgz.out ⟨_, hW2.out, by simp [hlen.out]⟩ ?_; intro w5 W5 K5; replace W5 := Lib.hid W5; replace hB2 := Lib.hid (hB2.out.trans (K5.below hB2.out.size (by simp))); clear K5))
      go_roundg K
      case measure => omega
      case rel => exact ⟨k + 1, by rw [show 64 * (k : Int) + 64 = 64 * ((k + 1 : Nat) : Int) by omega], by have := hk2.out; omega, by rw [← hzs.out]; exact W5.out, hB2.out⟩
end Go.Proofs.YtplfbpihhcnnmaaDoor.sha
