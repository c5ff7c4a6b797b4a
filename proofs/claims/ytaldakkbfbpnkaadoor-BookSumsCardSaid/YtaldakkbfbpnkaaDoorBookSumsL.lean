/- A book tells the sums of texts, and notes each once; twins that it tells are unlike, and of one sum: the law. The table of salts is a premise. No other condition. -/
import Derived.Test.YtaldakkbfbpnkaaDoorBookSums
import Derived.StillTailTactics
namespace Go.Proofs.YtaldakkbfbpnkaaDoor.sha
open Go.RowKit
attribute [local go_sem ↓] Go.wp_at_zero Go.wp_at_succ
attribute [local go_sem] str_size
set_option linter.unusedVariables false
set_option maxRecDepth 100000

def BS (w wr : World) (g m : Nat) (v : Value) (seen : List (List UInt8)) (st : BSt) : Prop := BookAt wr g m st ∧ SRow wr w.heap.size v seen ∧ w.heap.size ≤ g ∧ w.heap.size ≤ m ∧ Below w.heap.size w wr
section
variable {w wr w2 : World} {g m : Nat} {v : Value} {seen : List (List UInt8)} {st st2 : BSt}
theorem BS.book (h : BS w wr g m v seen st) : BookAt wr g m st := h.1
theorem BS.row (h : BS w wr g m v seen st) : SRow wr w.heap.size v seen := h.2.1
theorem BS.bel (h : BS w wr g m v seen st) : Below w.heap.size w wr := h.2.2.2.2
theorem BS.drew (h : BS w wr g m v seen st) : BS w wr.drew g m v seen st := ⟨⟨h.1.blk, h.1.ne, h.1.own⟩, h.2.1, h.2.2.1, h.2.2.2.1, h.bel.drew⟩
theorem BS.below (h : BS w wr g m v seen st) (k : Below wr.heap.size wr w2) : BS w w2 g m v seen st := ⟨h.1.below k, h.2.1.below k, h.2.2.1, h.2.2.2.1, belowCont h.bel k⟩
theorem BS.next (h : BS w wr g m v seen st) (hb : BookAt w2 g m st2) (k : Keeps [g, m] wr w2) : BS w w2 g m v seen st2 :=
  ⟨hb, h.row.turn (fun q hq => k.block q (h.row.lt hq) (by obtain ⟨a, b, _⟩ := h.row.ne h.1 hq; simp [a, b])), h.2.2.1, h.2.2.2.1, h.bel.trans (k.below h.bel.size (by intro x hx; simp at hx; rcases hx with rfl | rfl; exact h.2.2.1; exact h.2.2.2.1))⟩
theorem BS.append (h : BS w wr g m v seen st) {v2 : Value} {seen2 : List (List UInt8)} (hr : SRow w2 w.heap.size v2 seen2) (k : wr.grownBy w2 v.ownBlock) : BS w w2 g m v2 seen2 st :=
  ⟨h.1.grown k (fun e => (h.row.ne h.1 e.symm).1 rfl) (fun e => (h.row.ne h.1 e.symm).2.1 rfl), hr, h.2.2.1, h.2.2.2.1, h.bel.grown k h.bel.size (fun q hq => (h.row.block hq).1)⟩
end
theorem contains_step (l : List (List UInt8)) (j : Nat) (t s : List UInt8) (h : l[j]? = some t) : (l.take (j + 1)).contains s = ((l.take j).contains s || (s == t)) := by
  rw [List.take_add_one, h, Bool.eq_iff_iff, Bool.or_eq_true, List.contains_iff_mem, List.contains_iff_mem, List.mem_append]
  simp
set_option maxHeartbeats 4000000 in
theorem bookSums_walk (a0 : Option Addr) (len0 cap0 : Nat) (w : World) (w0 : SliceArg w a0 len0 1 (fun _ v => ∃ x, v = .string x ∧ x.size ≤ maxLen)) (hT : SaltAt w salts) :
    Calls Tryd.prog 11 #[.slice a0 len0 cap0] w fun e w' => e = .returned (.bool true) ∧ Below w.heap.size w w' := by
  replace w0 := Lib.hid w0
  replace hT := Lib.hid hT
  go_enter Tryd.func11, Tryd.ntmps11
  go_wp2_with (go_at_call 37; (with_reducible refine (bnew_any _).mono ?_); rintro e w1 ⟨rfl, h1, b1⟩; replace h1 := Lib.hid h1; replace b1 := Lib.hid b1)
  have hst : BS w (w1.alloc (.cells #[] 9)) (w.heap.size + 1) w.heap.size (.slice (some ⟨w1.heap.size, 0, none⟩) 0 0) [] .none :=
    ⟨h1.out.below ((Below.refl _ _).alloc (Nat.le_refl _) _), World.ownsRow_lit w1 #[] 0 b1.out.size (by unfold maxLen; omega) rfl, Nat.le_succ _, Nat.le_refl _, b1.out.alloc b1.out.size _⟩
  clear h1 b1
  go_loopg [4, 5] (min len0 60) (fun k s4 s5 wr => ∃ (i : Nat) (seen : List (List UInt8)) (st : BSt), s5 = .int .i64 (i : Int) ∧ i + k = min len0 60 ∧ BS w wr (w.heap.size + 1) w.heap.size s4 seen st ∧ Kept st seen ∧ seen.length ≤ i ∧ (∀ t, t ∈ seen → t.length ≤ 100))
  case atStart => exact ⟨0, [], .none, rfl, by omega, hst, Kept.none, Nat.le_refl _, fun _ h => by cases h⟩
  case round =>
    clear hst
    obtain ⟨i, seen, st, rfl, hik, hS, hK, hsi, hlen⟩ := hrel
    replace hS := Lib.hid hS; replace hK := Lib.hid hK; replace hlen := Lib.hid hlen; replace hsi := Lib.hid hsi; replace hik := Lib.hid hik
    by_cases hi : i < len0 ∧ i < 60
    · obtain ⟨hi1, hi2⟩ := hi
      obtain ⟨Ko, rfl⟩ : ∃ K : Nat, gk = K + 1 := ⟨gk - 1, by have := hik.out; omega⟩
      obtain ⟨hw1, hw2⟩ := w0.out
      obtain ⟨b, off, rfl, hlt, hcells⟩ := hw2.resolve_left (by omega)
      obtain ⟨v0, hv0, x0, rfl, hx0⟩ := hcells i hi1 0 (by omega)
      have d0 : wr.cell? ⟨b, off + i, none⟩ = some (.string x0) := by
        have := (hS.out.2.2.2.2.cell (p := ⟨b, off + i * 1 + 0, none⟩) hlt).trans hv0
        simpa using this
      have e1 : (0 : Int) ≤ (i : Int) := by omega
      have e2 : (i : Int) < (len0 : Int) := by omega
      have e3 : (i : Int) < 60 := by omega
      clear hcells hw2 hv0 hw1
      obtain ⟨T, hTT⟩ : ∃ T, T = x0.data.toList.take 100 := ⟨_, rfl⟩
      have hTl : T.length ≤ 100 := by rw [hTT, List.length_take]; omega
      have hx : x0.extract 0 (min (x0.size : Int) 100).toNat = str T := by rw [hTT]; exact cut_min x0 100
      have b1 : (0 : Int) ≤ min (x0.size : Int) 100 := by omega
      have b2 : min (x0.size : Int) 100 ≤ (x0.size : Int) := by omega
      clear hTT hx0
      go_upto_region 5 with fail
      refine wp_region_still_lit (by kernel_rfl) (by kernel_rfl) ?_
      change wpStill _ _ wr.drew _ _ _
      repeat still_step
      refine wpStill_nil ?_
      change Exit.then _ _ _ _ wr.drew
      have hc60 : st.c ≤ 8192 := by have := hK.out.len; have := hsi.out; omega
      have c1 : ∀ w', BookAt w' (w.heap.size + 1) w.heap.size st → SaltAt w' salts → Calls Tryd.prog 34 #[.pointer (some ⟨w.heap.size + 1, 0, none⟩), .string (str T)] w' fun e w2 => e = .returned (.string (str (shaB salts T))) ∧ BookAt w2 (w.heap.size + 1) w.heap.size (noteS st (shaB salts T) T) ∧ Keeps [w.heap.size + 1, w.heap.size] w' w2 := fun w' h h2 => bsum_any T (by omega) w' h hc60 h2
      have c2 := fun w' => rsum_any T (by omega) w'
      obtain ⟨S, hSS⟩ : ∃ V, V = shaB salts T := ⟨_, rfl⟩
      have hKo : T ∈ seen → Kept (noteS st S T) seen := fun h => by rw [hSS]; exact hK.out.old h
      have hKn : T ∉ seen → Kept (noteS st S T) (seen ++ [T]) := fun h => by rw [hSS]; exact hK.out.new h hTl hlen.out (by have := hsi.out; omega)
      rw [← hSS] at c1 c2
      obtain ⟨st2, hst2⟩ : ∃ s, s = noteS st S T := ⟨_, rfl⟩
      rw [← hst2] at c1 hKo hKn
      have heq : ((str S).toList == (str S).toList) = true := by simp
      clear hSS hst2 hx b1 b2 d0 hc60
      replace c1 := Lib.hid c1; replace c2 := Lib.hid c2; replace hKo := Lib.hid hKo; replace hKn := Lib.hid hKn; replace hTl := Lib.hid hTl
      replace hS := Lib.hid hS.out.drew
      generalize wr.drew = wd at *
      go_wp2_with (first
        | (go_at_call 34; (with_reducible refine (c1.out _ hS.out.book (hT.out.keep hS.out.bel)).mono ?_); rintro e w2 ⟨rfl, h2, k2⟩; replace hS := Lib.hid (hS.out.next h2 k2); clear h2 k2)
        | (go_at_call 20; (with_reducible refine (c2.out _).mono ?_); rintro e w3 ⟨rfl, b3⟩; replace hS := Lib.hid (hS.out.below b3); clear b3))
      go_loopg [7, 8] seen.length (fun k s7 s8 wx => ∃ j : Nat, s7 = .bool (!(seen.take j).contains T) ∧ s8 = .int .i64 (j : Int) ∧ j + k = seen.length ∧ BS w wx (w.heap.size + 1) w.heap.size u4 seen st2)
      case atStart => exact ⟨0, rfl, rfl, by omega, hS.out⟩
      case round =>
        clear hS
        obtain ⟨j, rfl, rfl, hjk, hS⟩ := hrel
        obtain ⟨ad, cap, hsh⟩ := hS.row.shape
        subst hsh
        replace hS := Lib.hid hS; replace hjk := Lib.hid hjk
        by_cases hj : j < seen.length
        · obtain ⟨t, htj⟩ : ∃ t, seen[j]? = some t := ⟨_, List.getElem?_eq_getElem hj⟩
          obtain ⟨q, cap2, hv2, hcell⟩ := hS.out.row.cell htj
          have hstep := contains_step seen j t T htj
          have hcmp : ((str t).toList == (str T).toList) = (T == t) := by rw [str_bl, str_bl, Bool.eq_iff_iff, beq_iff_eq, beq_iff_eq]; exact ⟨fun e => e.symm, fun e => e.symm⟩
          obtain ⟨p, hp⟩ : ∃ p, (seen.take j).contains T = p := ⟨_, rfl⟩
          obtain ⟨eq, heq2⟩ : ∃ p, (T == t) = p := ⟨_, rfl⟩
          rw [heq2] at hcmp hstep
          rw [hp] at hstep ⊢
          have f1 : (0 : Int) ≤ (j : Int) := by omega
          have f2 : (j : Int) < (seen.length : Int) := by omega
          have f3 : j < 1000 := by have := hsi.out; omega
          have hcell2 : wr.cell? ⟨q, j, none⟩ = some (.string (str t)) := hcell
          rw [hv2]
          clear hcell htj hp heq2 hj
          replace hstep := Lib.hid hstep; replace f3 := Lib.hid f3
          obtain ⟨K, rfl⟩ : ∃ K : Nat, gk = K + 1 := ⟨gk - 1, by have := hjk.out; omega⟩
          cases p <;> cases eq
          all_goals go_wp2
          all_goals go_roundg K
          all_goals first
            | omega
            | exact ⟨j + 1, by rw [hstep.out] <;> rfl, by (have h3 := f3.out; simp; unfold wrap64; omega), by have := hjk.out; omega, hS.out⟩
        · obtain rfl : j = seen.length := by have := hjk.out; omega
          have f2 : ¬ ((seen.length : Int) < (seen.length : Int)) := by omega
          rw [List.take_length]
          obtain ⟨p, hp⟩ : ∃ p, seen.contains T = p := ⟨_, rfl⟩
          rw [hp]
          cases p
          · have hnm : T ∉ seen := fun h => by rw [← List.contains_iff_mem, hp] at h; cases h
            have hK2 := hKn.out hnm
            replace hK2 := Lib.hid hK2
            have hsl : seen.length < 1000 := by have := hsi.out; omega
            replace hsl := Lib.hid hsl
            clear hp hnm hj
            go_wp2_with (at_builtin; refine wpList_append_str rfl _ _ rfl w.heap.size _ seen rfl (hS.out.row.below ((Below.refl _ _).alloc (Nat.le_refl _) _)) _ _ T rfl (newCell _ _ _ 0) ?ha ?hb ?_; (case ha => have := hsl.out; omega); (case hb => have := hS.out.bel.size; simp; omega); intro v2 w5 hrow2 hgrow2; have hS2 := (hS.out.below ((Below.refl _ _).alloc (Nat.le_refl _) _)).append hrow2 hgrow2; replace hS2 := Lib.hid hS2; clear hrow2 hgrow2)
            go_roundg Ko
            case measure => omega
            case rel => exact ⟨i + 1, seen ++ [T], st2, by go_num, by have := hik.out; omega, hS2.out, hK2.out, by have := hsi.out; rw [List.length_append]; simp; omega, fun t ht => by rcases List.mem_append.1 ht with h | h; exact hlen.out t h; simp at h; subst h; exact hTl.out⟩
          · have hm : T ∈ seen := by rw [← List.contains_iff_mem, hp]
            have hK2 := hKo.out hm
            replace hK2 := Lib.hid hK2
            clear hp hm hj
            go_wp2
            go_roundg Ko
            case measure => omega
            case rel => exact ⟨i + 1, seen, st2, by go_num, by have := hik.out; omega, hS.out, hK2.out, by have := hsi.out; omega, hlen.out⟩
    · have hi2 : ¬ ((i : Int) < (len0 : Int)) ∨ ¬ ((i : Int) < 60) := by omega
      clear hi
      obtain ⟨ad, cap, hsh⟩ := hS.out.row.shape
      subst hsh
      cases htw : st.tw
      · obtain ⟨a1, a2, a3, a4, a5⟩ := hK.out.all htw
        have c1 : ∀ w', BookAt w' (w.heap.size + 1) w.heap.size st → Calls Tryd.prog 31 #[.pointer (some ⟨w.heap.size + 1, 0, none⟩)] w' fun e w2 => e = .returned (.tuple #[.string ⟨#[]⟩, .string ⟨#[]⟩, .bool false]) ∧ Below w'.heap.size w' w2 := fun w' h => by
          have := btwins_any w' h
          rw [htw, a3, a4] at this; exact this
        have c2 : ∀ w', BookAt w' (w.heap.size + 1) w.heap.size st → Calls Tryd.prog 35 #[.pointer (some ⟨w.heap.size + 1, 0, none⟩)] w' fun e w2 => e = .returned (.int .i64 (seen.length : Int)) ∧ Below w'.heap.size w' w2 := fun w' h => by
          have := blen_any w' h
          rw [a1] at this; exact this
        have c3 : ∀ w', BookAt w' (w.heap.size + 1) w.heap.size st → Calls Tryd.prog 36 #[.pointer (some ⟨w.heap.size + 1, 0, none⟩)] w' fun e w2 => e = .returned (.bool false) ∧ Below w'.heap.size w' w2 := fun w' h => by
          have := bfull_any w' h
          rw [a2] at this; exact this
        clear a1 a2 a3 a4 a5 htw
        replace c1 := Lib.hid c1; replace c2 := Lib.hid c2; replace c3 := Lib.hid c3
        rcases hi2 with hi2 | hi2
        all_goals go_wp2_with (first
          | (go_at_call 31; (with_reducible refine (c1.out _ hS.out.book).mono ?_); rintro e w3 ⟨rfl, b3⟩; replace hS := Lib.hid (hS.out.below b3); clear b3)
          | (go_at_call 35; (with_reducible refine (c2.out _ hS.out.book).mono ?_); rintro e w3 ⟨rfl, b3⟩; replace hS := Lib.hid (hS.out.below b3); clear b3)
          | (go_at_call 36; (with_reducible refine (c3.out _ hS.out.book).mono ?_); rintro e w3 ⟨rfl, b3⟩; replace hS := Lib.hid (hS.out.below b3); clear b3)
          | (go_at_call 32; (with_reducible refine (bawake_any _ (hT.out.keep hS.out.bel)).mono ?_); rintro e w3 ⟨rfl, b3⟩; replace hS := Lib.hid (hS.out.below b3); clear b3))
        all_goals go_outline
        all_goals go_ret
        all_goals exact ⟨rfl, hS.out.bel⟩
      · obtain ⟨hne, hsum, hxl, hyl⟩ := hK.out.twin htw
        have c1 : ∀ w', BookAt w' (w.heap.size + 1) w.heap.size st → Calls Tryd.prog 31 #[.pointer (some ⟨w.heap.size + 1, 0, none⟩)] w' fun e w2 => e = .returned (.tuple #[.string (str st.x), .string (str st.y), .bool true]) ∧ Below w'.heap.size w' w2 := fun w' h => by
          have := btwins_any w' h
          rw [htw] at this; exact this
        have c2 := fun w' => rsum_any st.x (by omega) w'
        have c3 := fun w' => rsum_any st.y (by omega) w'
        rw [← hsum] at c3
        have f1 : ((str st.x).toList == (str st.y).toList) = false := by rw [str_bl, str_bl]; exact beq_eq_false_iff_ne.mpr hne
        obtain ⟨S, hSS⟩ : ∃ V, V = str (shaB salts st.x) := ⟨_, rfl⟩
        rw [← hSS] at c2 c3
        obtain ⟨X, hX⟩ : ∃ V, V = str st.x := ⟨_, rfl⟩
        obtain ⟨Y, hY⟩ : ∃ V, V = str st.y := ⟨_, rfl⟩
        rw [← hX] at c1 c2 f1
        rw [← hY] at c1 c3 f1
        have f2 : (S.toList == S.toList) = true := by simp
        clear hne hsum hxl hyl htw hSS hX hY
        replace c1 := Lib.hid c1; replace c2 := Lib.hid c2; replace c3 := Lib.hid c3
        rcases hi2 with hi2 | hi2
        all_goals go_wp2_with (first
          | (go_at_call 31; (with_reducible refine (c1.out _ hS.out.book).mono ?_); rintro e w3 ⟨rfl, b3⟩; replace hS := Lib.hid (hS.out.below b3); clear b3)
          | (go_at_call 20; (with_reducible refine (c2.out _).mono ?_); rintro e w3 ⟨rfl, b3⟩; replace hS := Lib.hid (hS.out.below b3); clear b3)
          | (go_at_call 20; (with_reducible refine (c3.out _).mono ?_); rintro e w3 ⟨rfl, b3⟩; replace hS := Lib.hid (hS.out.below b3); clear b3)
          | (go_at_call 32; (with_reducible refine (bawake_any _ (hT.out.keep hS.out.bel)).mono ?_); rintro e w3 ⟨rfl, b3⟩; replace hS := Lib.hid (hS.out.below b3); clear b3))
        all_goals go_outline
        all_goals go_ret
        all_goals exact ⟨rfl, hS.out.bel⟩
end Go.Proofs.YtaldakkbfbpnkaaDoor.sha
