/- The failing of a disk's power with whatever fates, where no cut is planned (package disk). No condition. -/
import Derived.Test.YtdhboldmffiklabDisk6
namespace Go.Proofs.Ytdhboldmffiklab.disk
open Go.RowKit
attribute [local go_sem ↓] Go.wp_at_zero Go.wp_at_succ
attribute [local go_sem] str_size str_append
set_option linter.unusedVariables false
set_option maxRecDepth 100000

def fatedL (a b : List UInt8) (z : Nat) : List UInt8 := if z = 1 then b else if z = 2 then b.take 256 ++ a.drop 256 else if z = 3 then a.take 256 ++ b.drop 256 else a
theorem fatedL_len (a b : List UInt8) (z : Nat) (ha : a.length = 512) (hb : b.length = 512) : (fatedL a b z).length = 512 := by
  unfold fatedL
  repeat' split
  all_goals simp [*]
theorem fated_any (a b : List UInt8) (z : Nat) (ha : a.length = 512) (hb : b.length = 512) (w : World) : Calls Try.prog 76 #[.string (str a), .string (str b), .int .i64 (z : Int)] w fun e w' => e = .returned (.string (str (fatedL a b z))) ∧ Below w.heap.size w w' := by
  have a1 : (str a).extract 0 256 = str (a.take 256) := by rw [cut_extract]; simp
  have a2 : (str a).extract 256 512 = str (a.drop 256) := by rw [cut_extract, List.take_of_length_le (by rw [List.length_drop]; omega)]
  have b1 : (str b).extract 0 256 = str (b.take 256) := by rw [cut_extract]; simp
  have b2 : (str b).extract 256 512 = str (b.drop 256) := by rw [cut_extract, List.take_of_length_le (by rw [List.length_drop]; omega)]
  have la1 : (a.take 256).length = 256 := by rw [List.length_take]; omega
  have lb1 : (b.take 256).length = 256 := by rw [List.length_take]; omega
  have la2 : (a.drop 256).length = 256 := by rw [List.length_drop]; omega
  have lb2 : (b.drop 256).length = 256 := by rw [List.length_drop]; omega
  obtain ⟨R, hR⟩ : ∃ R, R = fatedL a b z := ⟨_, rfl⟩
  rw [← hR]
  have hz : (z = 1 ∧ R = b) ∨ (z = 2 ∧ R = b.take 256 ++ a.drop 256) ∨ (z = 3 ∧ R = a.take 256 ++ b.drop 256) ∨ (z ≠ 1 ∧ z ≠ 2 ∧ z ≠ 3 ∧ R = a) := by
    by_cases h1 : z = 1
    · exact .inl ⟨h1, by rw [hR, fatedL, if_pos h1]⟩
    · by_cases h2 : z = 2
      · exact .inr (.inl ⟨h2, by rw [hR, fatedL, if_neg h1, if_pos h2]⟩)
      · by_cases h3 : z = 3
        · exact .inr (.inr (.inl ⟨h3, by rw [hR, fatedL, if_neg h1, if_neg h2, if_pos h3]⟩))
        · exact .inr (.inr (.inr ⟨h1, h2, h3, by rw [hR, fatedL, if_neg h1, if_neg h2, if_neg h3]⟩))
  clear hR
  generalize a.take 256 = A1 at *
  generalize a.drop 256 = A2 at *
  generalize b.take 256 = B1 at *
  generalize b.drop 256 = B2 at *
  have r1 : ¬ 9223372036854775807 < A1.length + B2.length := by omega
  have r2 : ¬ 9223372036854775807 < B1.length + A2.length := by omega
  clear la1 la2 lb1 lb2
  rcases hz with ⟨rfl, rfl⟩ | ⟨rfl, rfl⟩ | ⟨rfl, rfl⟩ | ⟨h1, h2, h3, rfl⟩
  · go_enter Try.func76, Try.ntmps76
    go_wp2
    go_ret
    exact ⟨rfl, Below.refl _ _⟩
  · go_enter Try.func76, Try.ntmps76
    go_wp2
    go_quiet (fail)
    go_wp2
    go_ret
    exact ⟨rfl, belowDrewN (Below.refl _ _) _⟩
  · go_enter Try.func76, Try.ntmps76
    go_wp2
    go_quiet (fail)
    go_wp2
    go_ret
    exact ⟨rfl, belowDrewN (Below.refl _ _) _⟩
  · have q1 : ((z : Int) == 1) = false := by simp; omega
    have q2 : ((z : Int) == 2) = false := by simp; omega
    have q3 : ((z : Int) == 3) = false := by simp; omega
    go_enter Try.func76, Try.ntmps76
    go_wp2
    go_ret
    exact ⟨rfl, Below.refl _ _⟩
def fz (x : Int) : Nat := (x % 4).toNat
theorem fz_lt (x : Int) : fz x < 4 := by unfold fz; omega
theorem fz_and (x : Int) : bits .and .u64 x 3 = ((fz x : Nat) : Int) := by
  show IntKind.u64.wrap ((BitVec.ofInt 64 x &&& BitVec.ofInt 64 3).toNat : Int) = _
  have hm : (BitVec.ofInt 64 3).toNat = 3 := by decide
  rw [BitVec.toNat_and, hm, BitVec.toNat_ofInt, IntKind.wrap_u64]
  have h1 : ((x % ((2 ^ 64 : Nat) : Int)).toNat : Int) = x % ((2 ^ 64 : Nat) : Int) := Int.toNat_of_nonneg (Int.emod_nonneg _ (by decide))
  have e : (3 : Nat) = 2 ^ 2 - 1 := by decide
  have h3 : ((((x % ((2 ^ 64 : Nat) : Int)).toNat &&& 3 : Nat)) : Int) = x % 4 := by
    rw [e, Nat.and_two_pow_sub_one_eq_mod, Int.natCast_emod, h1]
    exact Int.emod_emod_of_dvd _ (by decide)
  rw [h3]
  unfold fz; omega
theorem fz_conv (x : Int) : IntKind.i64.wrap ((fz x : Nat) : Int) = ((fz x : Nat) : Int) := by
  have := fz_lt x
  rw [IntKind.wrap_i64]; omega
theorem set_all {S : List (List UInt8)} (h : ∀ s, s ∈ S → s.length = 512) {c : List UInt8} (hc : c.length = 512) (n : Nat) : ∀ s, s ∈ S.set n c → s.length = 512 := fun s hs => by
  rcases List.mem_or_eq_of_mem_set hs with h1 | h1
  · exact h s h1
  · rw [h1]; exact hc
theorem set_other {S T : List (List UInt8)} {row : List Nat} (h : ∀ j, j ∉ row → S[j]? = T[j]?) {n : Nat} (hn : n ∈ row) {c : List UInt8} : ∀ j, j ∉ row → (S.set n c)[j]? = T[j]? := fun j hj => by
  rw [List.getElem?_set_ne (by rintro rfl; exact hj hn)]; exact h j hj
section
variable {w w' : World} {B g q m k : Nat} {v : Value} {st : DSt}
set_option maxHeartbeats 16000000 in
theorem fail_any (h : DiskAt w B g q m k v st) (hd : st.dead = false) (hl : st.sure.length ≤ 100000) (hlen : ∀ s, s ∈ st.sure → s.length = 512) (hrow : ∀ n, n ∈ st.row → n < st.sure.length ∧ ∃ t, st.f (n : Int) = some t ∧ t.length = 512) (hr : st.row.length ≤ 100000) (fates : Int) :
    Calls Try.prog 29 #[.pointer (some ⟨g, 0, none⟩), .int .u64 fates] w fun e w' => e = .returned (.tuple #[]) ∧ (∃ m2 S, DiskAt w' B g q m2 k (.slice none 0 0) ⟨S, fun _ => none, [], st.acts, true⟩ ∧ S.length = st.sure.length ∧ (∀ j, j ∉ st.row → S[j]? = st.sure[j]?)) ∧ Below B w w' := by
  have hdead : Calls Try.prog 20 #[.pointer (some ⟨g, 0, none⟩)] w fun e w2 => e = .returned (.bool false) ∧ Below w.heap.size w w2 := by have := dead_any h; rw [hd] at this; exact this
  have hbel := fun w' (b : Below w.heap.size w w') => h.below b
  have hge := Lib.hid h.ge
  have hB : B ≤ w.heap.size := Nat.le_trans h.ge.1 (Nat.le_of_lt h.lt.1)
  obtain ⟨L, hL⟩ : ∃ L, L = st.row.length := ⟨_, rfl⟩
  obtain ⟨ad, cap, hsh⟩ := rowShape h.row
  rw [← hL] at hsh
  have hsome : 0 < L → ∃ r, ad = some ⟨r, 0, none⟩ := fun h0 => by
    obtain ⟨r, c, hv⟩ := row_some h.row (by omega)
    rw [hsh] at hv
    injection hv with e1
    exact ⟨r, e1⟩
  subst hsh
  rw [← hL] at hr
  replace hdead := Lib.hid hdead; replace hbel := Lib.hid hbel; replace hB := Lib.hid hB; replace hrow := Lib.hid hrow; replace hsome := Lib.hid hsome; replace hL := Lib.hid hL; replace hlen := Lib.hid hlen
  clear h hd
  go_enter Try.func29, Try.ntmps29
  go_wp2_with (go_at_call 20; (with_reducible refine hdead.out.mono ?_); rintro e w1 ⟨rfl, b1⟩; have D1 := hbel.out w1 b1; obtain ⟨d0, d1, d2, d3, d4, d5⟩ := D1.cells; replace D1 := Lib.hid D1; replace b1 := Lib.hid (b1.mono hB.out))
  clear d0 d1 d2 d3 d4 d5
  go_loopg [14] L (fun kk s14 wr => ∃ (i : Nat) (S : List (List UInt8)), s14 = .int .i64 (i : Int) ∧ i + kk = L ∧ S.length = st.sure.length ∧ (∀ s, s ∈ S → s.length = 512) ∧ (∀ j, j ∉ st.row → S[j]? = st.sure[j]?) ∧ DiskAt wr B g q m k (.slice ad L cap) { st with sure := S } ∧ Below B w wr)
  case atStart => exact ⟨0, st.sure, rfl, by omega, rfl, hlen.out, fun _ _ => rfl, D1.out, b1.out⟩
  case round =>
    clear D1 b1
    obtain ⟨i, S, rfl, hik, hSl, hS5, hSo, hD, hb⟩ := hrel
    by_cases hi : i < L
    · obtain ⟨Ko, rfl⟩ : ∃ K : Nat, gk = K + 1 := ⟨gk - 1, by omega⟩
      obtain ⟨r, rfl⟩ := hsome.out (by omega)
      obtain ⟨n, hn⟩ : ∃ n, st.row[i]? = some n := ⟨_, List.getElem?_eq_getElem (by have := hL.out; omega)⟩
      have hmem := List.mem_of_getElem? hn
      obtain ⟨hn1, t, ht, ht5⟩ := hrow.out n hmem
      have hc : wr.cell? ⟨r, i, none⟩ = some (.int .i64 (n : Int)) := by
        have hr2 := hD.row
        simp only [] at hr2
        rw [← hL.out] at hr2
        exact rowAt hr2 hn
      obtain ⟨d0, d1, d2, d3, d4, d5⟩ := hD.cells
      have hnr : -9223372036854775808 ≤ (n : Int) ∧ (n : Int) ≤ 9223372036854775807 := by omega
      have hDd := hD.below (Below.refl wr.heap.size wr).drew
      have hg2 := hDd.get (n : Int) hnr ht
      obtain ⟨t0, ht0⟩ : ∃ t, S[n]? = some t := ⟨_, List.getElem?_eq_getElem (by omega)⟩
      have ht05 := hS5 t0 (List.mem_of_getElem? ht0)
      have hfr := hD.sure.free n
      have hs0 := hD.sure.cell ht0
      have e1 : (0 : Int) ≤ (n : Int) := by omega
      have e2 : (n : Int) < (S.length : Int) := by omega
      have e3 : (0 : Int) ≤ (i : Int) := by omega
      have e4 : (i : Int) < (L : Int) := by omega
      have hfl := fun s => field_laid wr.drew s
      have hfat : ∀ (z : Nat) (W : World), Calls Try.prog 76 #[.string (str t0), .string (str t), .int .i64 (z : Int)] W fun e w' => (∃ c : List UInt8, e = .returned (.string (str c)) ∧ c.length = 512) ∧ Below W.heap.size W w' := fun z W => (fated_any t0 t z ht05 ht5 W).mono fun e w' ⟨h1, h2⟩ => ⟨⟨_, h1, fatedL_len _ _ _ ht05 ht5⟩, h2⟩
      obtain ⟨R, hR1, hR2, hR3⟩ : ∃ R : Nat, Int.tmod (i : Int) 32 = ((R : Nat) : Int) ∧ R < 32 ∧ wrap64 (2 * (R : Int)) = ((2 * R : Nat) : Int) := ⟨i % 32, by rw [Int.tmod_eq_emod_of_nonneg (by omega)]; omega, Nat.mod_lt _ (by decide), by unfold wrap64; omega⟩
      have hR4 : IntKind.i64.wrap (2 * (R : Int)) = ((2 * R : Nat) : Int) := by rw [IntKind.wrap_i64]; omega
      have hR5 : ¬ (((2 * R : Nat) : Int)) < 0 := by omega
      have hand := fz_and
      have hcv := fz_conv
      simp only [] at d0 d1 d2 d4
      replace hfat := Lib.hid hfat; replace hD := Lib.hid hD; replace hDd := Lib.hid hDd; replace hb := Lib.hid hb; replace hS5 := Lib.hid hS5; replace hSo := Lib.hid hSo; replace hSl := Lib.hid hSl; replace hmem := Lib.hid hmem
      replace ht0 := Lib.hid ht0
      clear hn hn1 ht ht5 ht05 hnr d2 d3 d4 d5
      generalize hRR : 2 * R = R2 at *
      clear hRR hR2
      go_upto_region 5 with fail
      have hz := fz_conv (fates / 2 ^ min R2 64)
      generalize fz (fates / 2 ^ min R2 64) = Z at hz ⊢
      clear hand hcv hR1 hR3 hR4 hR5 hbel hsome
      go_region_with (go_at_call 76; (with_reducible refine (hfat.out _ _).mono ?_); rintro e wF ⟨⟨c, rfl, hc5⟩, bF⟩; have DF := hDd.out.below bF; obtain ⟨x0, x1, x2, x3, x4, x5⟩ := DF.cells; have hfrF := DF.sure.free n; have hsF := DF.sure.cell ht0.out; simp only [] at x0 x1; replace DF := Lib.hid DF; replace bF := Lib.hid bF; replace hc5 := Lib.hid hc5; clear x2 x3 x4 x5)
      all_goals (go_wp2; go_roundg Ko; (case measure => omega); (case rel => exact ⟨i + 1, S.set n c, by go_num, by omega, by rw [List.length_set]; exact hSl.out, set_all hS5.out hc5.out n, set_other hSo.out hmem.out, DF.out.setSure n c, ((hb.out.drew).trans (bF.out.mono (Nat.le_trans hB.out hb.out.size))).setCell (p := ⟨q, n, none⟩) hge.out.2.1 _⟩))
    · have hk0 : gk = 0 := by omega
      subst hk0
      have hiL : i = L := by omega
      have e4 : ¬ (i : Int) < (L : Int) := by omega
      have hsett : Calls Try.prog 75 #[.pointer (some ⟨g, 0, none⟩)] wr fun e w2 => e = .returned (.tuple #[]) ∧ DiskAt w2 B g q wr.heap.size k (.slice none 0 0) ⟨S, fun _ => none, [], st.acts, st.dead⟩ ∧ Below B wr w2 := settle_any hD
      replace hsett := Lib.hid hsett; replace hb := Lib.hid hb; replace hSl := Lib.hid hSl; replace hSo := Lib.hid hSo
      clear hD hbel
      go_wp2_with (go_at_call 75; (with_reducible refine hsett.out.mono ?_); rintro e w5 ⟨rfl, hE, b5⟩; have f5 := hE.free 5; have hF := hE.setDead true; obtain ⟨d0, d1, d2, d3, d4, d5⟩ := hE.cells; replace hF := Lib.hid hF; replace b5 := Lib.hid (hb.out.trans b5); clear hE)
      go_end0
      exact ⟨rfl, ⟨_, S, hF.out, hSl.out, hSo.out⟩, b5.out.setCell (p := ⟨g, 5, none⟩) hge.out.1 _⟩
end
end Go.Proofs.Ytdhboldmffiklab.disk
