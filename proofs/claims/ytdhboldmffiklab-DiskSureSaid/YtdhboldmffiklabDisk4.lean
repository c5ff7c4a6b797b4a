/- The failing of a disk's power where one block is not sure and its fate is none; the law DiskNone. No condition. -/
import Derived.Test.YtdhboldmffiklabDisk3
import Derived.StillTailTactics
namespace Go.Proofs.Ytdhboldmffiklab.disk
open Go.RowKit
attribute [local go_sem ↓] Go.wp_at_zero Go.wp_at_succ
attribute [local go_sem] str_size
set_option linter.unusedVariables false
set_option maxRecDepth 100000

theorem fated_zero (a b : ByteArray) (w : World) : Calls Try.prog 76 #[.string a, .string b, .int .i64 0] w fun e w' => e = .returned (.string a) ∧ w' = w := by
  go_enter Try.func76, Try.ntmps76
  go_wp2
  go_ret
  exact ⟨rfl, rfl⟩
section
variable {w w' : World} {B g q m k : Nat} {v : Value} {st : DSt}
def DSt.settled (st : DSt) : DSt := ⟨st.sure, fun _ => none, [], st.acts, st.dead⟩
theorem settle_any (h : DiskAt w B g q m k v st) : Calls Try.prog 75 #[.pointer (some ⟨g, 0, none⟩)] w fun e w' => e = .returned (.tuple #[]) ∧ DiskAt w' B g q w.heap.size k (.slice none 0 0) st.settled ∧ Below B w w' := by
  have hmm := @run_makeMap Try.prog
  have hb : Below w.heap.size w (w.alloc (.map #[] 0)) := (Below.refl _ w).alloc (Nat.le_refl _) _
  have D1 := h.below hb
  obtain ⟨d0, d1, d2, d3, d4, d5⟩ := D1.cells
  have f1 := D1.free 1
  have f2 := D1.free 2
  have hm := World.ownsMap_made w Try.prog 3 (laidElem (H := Unit))
  have hge := h.ge.1
  have hBw : B ≤ w.heap.size := Nat.le_trans h.ge.1 (Nat.le_of_lt h.lt.1)
  have hfin : DiskAt (((w.alloc (.map #[] 0)).setCell ⟨g, 1, none⟩ (.map (some w.heap.size))).setCell ⟨g, 2, none⟩ (.slice none 0 0)) B g q w.heap.size k (.slice none 0 0) st.settled := by
    obtain ⟨D2, k1, k2⟩ := D1.cuts
    obtain ⟨l1, l2, l3, l4⟩ := h.lt
    obtain ⟨n1, n2, n3, n4, n5, n6⟩ := h.ne
    have hset : ∀ b, b ≠ g → (((w.alloc (.map #[] 0)).setCell ⟨g, 1, none⟩ (.map (some w.heap.size))).setCell ⟨g, 2, none⟩ (.slice none 0 0)).heap[b]? = (w.alloc (.map #[] 0)).heap[b]? := fun b hb => (Below.heap_setCell _ _ _ b (fun e => hb e)).trans (Below.heap_setCell _ _ _ b (fun e => hb e))
    refine ⟨?_, (hset q (Ne.symm n1)).trans D1.sure, ⟨_, 0, ownsMap_of_block hm (hset _ (by omega)), Nat.le_refl _, fun _ => rfl, fun _ _ _ h => by cases h⟩, ⟨D2, ownsMap_of_block k1 (hset k (Ne.symm n3)), k2⟩, World.ownsRow_nil _ _ _ _, ⟨h.ge.1, h.ge.2.1, hBw, h.ge.2.2.2⟩, ⟨n1, by omega, n3, by omega, n5, by omega⟩⟩
    simp [World.setCell, Array.getElem?_modify, D1.blk, DSt.settled]
  have hbel : Below B w (((w.alloc (.map #[] 0)).setCell ⟨g, 1, none⟩ (.map (some w.heap.size))).setCell ⟨g, 2, none⟩ (.slice none 0 0)) := (((Below.refl B w).alloc hBw _).setCell (p := ⟨g, 1, none⟩) hge _).setCell (p := ⟨g, 2, none⟩) hge _
  replace hfin := Lib.hid hfin; replace hbel := Lib.hid hbel
  clear h hb D1 hm hge hBw
  go_enter Try.func75, Try.ntmps75
  go_wp2
  go_outline
  go_end0
  exact ⟨rfl, hfin.out, hbel.out⟩
theorem DiskAt.get (h : DiskAt w B g q m k v st) (x : Int) (hx : -9223372036854775808 ≤ x ∧ x ≤ 9223372036854775807) {t : List UInt8} (ht : st.f x = some t) : (Instr.lookup 113 (.map (some m)) (.int .i64 x) false).run Try.prog w = .ok (.agg #[.string (str t)]) w := by
  obtain ⟨D, c, h1, h2, h3, h4⟩ := h.fresh
  obtain ⟨u, ps, hr, hv⟩ := h1.lookup keyedInt Try.underlying113 (zeroLaid w) (laidElem_mk ⟨#[]⟩) (keyInt x hx)
  obtain ⟨s, rfl, hz⟩ := laidElem_inv hv
  have := h4 x t (.lit (.string (⟨#[]⟩ : ByteArray).data.toList)) ht
  rw [this] at hz
  have e : t = s.data.toList := by injection hz with e1 _; injection e1 with e2; injection e2
  rw [e]; exact hr
theorem rowCell {r cap n : Nat} (h : w.ownsRow B 3 1 (.slice (some ⟨r, 0, none⟩) 1 cap) 1 [.int .i64 (n : Int)]) : w.cell? ⟨r, 0, none⟩ = some (.int .i64 (n : Int)) := by
  rcases h.2 with ⟨h0, _⟩ | ⟨r2, cap2, cur, hv, hB, hg, _, _, hsz, ht⟩
  · cases h0
  · cases hv
    rw [cell_of_row _ _ _ _ _ _ hg]
    have h1 : (cur.toList.take (1 * 1))[0]? = some (.int .i64 (n : Int)) := by rw [ht]; rfl
    rw [List.getElem?_take] at h1
    simpa using h1
def DSt.off (st : DSt) : DSt := ⟨st.sure, fun _ => none, [], st.acts, true⟩
theorem field_laid (W : World) (s : ByteArray) : (Instr.field 123 (.agg #[.string s]) 0).run Try.prog W = .ok (.string s) W := by kernel_rfl
theorem fail_zero (h : DiskAt w B g q m k v st) (hd : st.dead = false) (n : Nat) (hrow : st.row = [n]) (hn : n < st.sure.length) (hl : st.sure.length ≤ 100000) (t : List UInt8) (hf : st.f (n : Int) = some t) :
    Calls Try.prog 29 #[.pointer (some ⟨g, 0, none⟩), .int .u64 0] w fun e w' => e = .returned (.tuple #[]) ∧ (∃ m2, DiskAt w' B g q m2 k (.slice none 0 0) st.off) ∧ Below B w w' := by
  have hdead : Calls Try.prog 20 #[.pointer (some ⟨g, 0, none⟩)] w fun e w2 => e = .returned (.bool false) ∧ Below w.heap.size w w2 := by have := dead_any h; rw [hd] at this; exact this
  have hbel := fun w' (b : Below w.heap.size w w') => h.below b
  have hB : B ≤ w.heap.size := Nat.le_trans h.ge.1 (Nat.le_of_lt h.lt.1)
  obtain ⟨t0, ht0⟩ : ∃ t, st.sure[n]? = some t := ⟨_, List.getElem?_eq_getElem hn⟩
  have hsame : st.sure.set n t0 = st.sure := by
    apply List.ext_getElem?
    intro j
    rw [List.getElem?_set]
    by_cases hj : n = j
    · subst hj; rw [if_pos rfl, if_pos hn, ht0]
    · rw [if_neg hj]
  have hst : ({ st with sure := st.sure.set n t0 } : DSt) = st := by rw [hsame]
  obtain ⟨r, cap, hv⟩ : ∃ r cap, v = .slice (some ⟨r, 0, none⟩) 1 cap := by
    have hr := h.row
    rw [hrow] at hr
    rcases hr.2 with ⟨_, h0⟩ | ⟨r, cap, cur, hv, _⟩
    · simp at h0
    · exact ⟨r, cap, hv⟩
  subst hv
  have hrc : ∀ w', DiskAt w' B g q m k (.slice (some ⟨r, 0, none⟩) 1 cap) st → w'.cell? ⟨r, 0, none⟩ = some (.int .i64 (n : Int)) := fun w' h => by
    have hr := h.row
    rw [hrow] at hr
    exact rowCell hr
  have hnr : -9223372036854775808 ≤ (n : Int) ∧ (n : Int) ≤ 9223372036854775807 := by omega
  have hget : ∀ w', DiskAt w' B g q m k (.slice (some ⟨r, 0, none⟩) 1 cap) st → (Instr.lookup 113 (.map (some m)) (.int .i64 (n : Int)) false).run Try.prog w' = .ok (.agg #[.string (str t)]) w' := fun w' h => h.get _ hnr hf
  have e1 : (0 : Int) ≤ (n : Int) := by omega
  have e2 : (n : Int) < (st.sure.length : Int) := by omega
  have hsett : ∀ w', DiskAt w' B g q m k (.slice (some ⟨r, 0, none⟩) 1 cap) st → Calls Try.prog 75 #[.pointer (some ⟨g, 0, none⟩)] w' fun e w2 => e = .returned (.tuple #[]) ∧ DiskAt w2 B g q w'.heap.size k (.slice none 0 0) st.settled ∧ Below B w' w2 := fun w' h => settle_any h
  replace hdead := Lib.hid hdead; replace hbel := Lib.hid hbel; replace hrc := Lib.hid hrc; replace hnr := Lib.hid hnr; replace ht0 := Lib.hid ht0; replace hf := Lib.hid hf; replace hget := Lib.hid hget; replace hst := Lib.hid hst; replace hB := Lib.hid hB; replace hsett := Lib.hid hsett
  clear hrow hsame
  have hge := Lib.hid h.ge
  clear h
  go_enter Try.func29, Try.ntmps29
  go_wp2_with (go_at_call 20; (with_reducible refine hdead.out.mono ?_); rintro e w1 ⟨rfl, b1⟩; have D1 := hbel.out w1 b1; obtain ⟨d0, d1, d2, d3, d4, d5⟩ := D1.cells; replace D1 := Lib.hid D1; replace b1 := Lib.hid (b1.mono hB.out))
  clear d0 d1 d2 d3 d4 d5
  go_loopg [14] 1 (fun kk s14 wr => ∃ i : Nat, s14 = .int .i64 (i : Int) ∧ i + kk = 1 ∧ DiskAt wr B g q m k (.slice (some ⟨r, 0, none⟩) 1 cap) st ∧ Below B w wr)
  case atStart => exact ⟨0, rfl, rfl, D1.out, b1.out⟩
  case round =>
    clear D1 b1
    obtain ⟨i, rfl, hik, hD, hb⟩ := hrel
    obtain ⟨d0, d1, d2, d3, d4, d5⟩ := hD.cells
    by_cases hi : i = 0
    · subst hi
      obtain rfl : gk = 1 := by omega
      have hc := hrc.out wr hD
      have hg1 := hget.out wr hD
      have hg2 := hget.out wr.drew (hD.below (Below.refl _ _).drew)
      have hfr := hD.sure.free n
      have hs0 := hD.sure.cell ht0.out
      have hD2 := hD.setSure n t0
      rw [hst.out] at hD2
      replace hD := Lib.hid hD; replace hD2 := Lib.hid hD2; replace hb := Lib.hid hb
      have hfl := fun s => field_laid wr.drew s
      go_upto_region 5 with fail
      go_outline
      refine wp_region_still_tail 23 (by kernel_rfl) (by kernel_rfl) ?_
      simp only [List.take_succ_cons, List.take_zero, List.drop_succ_cons, List.drop_zero]
      change wpStill _ _ wr.drew _ _ _
      repeat still_step
      have hbz : bits BinOp.and IntKind.u64 0 3 = 0 := by decide
      simp only [hbz]
      repeat still_step
      still_call (fated_zero _ _ _)
      repeat still_step
      try refine wpStill_nil ?_
      change wpList _ _ _ _ _ wr.drew
      go_wp2
      go_outline
      go_roundg 0
      case measure => omega
      case rel => exact ⟨1, rfl, rfl, hD2.out.below (Below.refl _ _).drew, (hb.out.setCell (p := ⟨q, n, none⟩) hge.out.2.1 _).drew⟩
    · obtain rfl : i = 1 := by omega
      clear hget hrc hf ht0 hi hik e1 e2
      clear d0 d1 d2 d3 d4 d5
      replace hD := Lib.hid hD; replace hb := Lib.hid hb
      go_wp2_with (go_at_call 75; (with_reducible refine (hsett.out _ hD.out).mono ?_); rintro e w5 ⟨rfl, hE, b5⟩; have f5 := hE.free 5; have hF := hE.setDead true; obtain ⟨d0, d1, d2, d3, d4, d5⟩ := hE.cells; replace hF := Lib.hid hF; replace b5 := Lib.hid (hb.out.trans b5); clear hE)
      go_end0
      exact ⟨rfl, ⟨_, hF.out⟩, b5.out.setCell (p := ⟨g, 5, none⟩) hge.out.1 _⟩
end
end Go.Proofs.Ytdhboldmffiklab.disk
