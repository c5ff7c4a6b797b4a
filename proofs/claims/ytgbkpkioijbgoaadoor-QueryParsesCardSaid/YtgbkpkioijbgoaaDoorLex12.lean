/- The words of a question, as the document has them (package lodestoneref32): all of them. No condition. -/
import Derived.Test.YtgbkpkioijbgoaaDoorLex11
import Derived.Laws.OwnMore
import Derived.Deep.CutBlock
import Derived.Deep.DeepCutAuto
import Derived.Deep.CutRange
namespace Go.Proofs.YtgbkpkioijbgoaaDoor.lex
open Go.RowKit
attribute [local go_sem ↓] Go.wp_at_zero Go.wp_at_succ
attribute [local go_sem] str_size
set_option linter.unusedVariables false
set_option maxRecDepth 100000

theorem WRow.setNe {w : World} {base g i : Nat} {x : Value} {v : Value} {l : List W} (h : WRow w base v l) (hne : v.ownBlock ≠ some g) : WRow (w.setCell ⟨g, i, none⟩ x) base v l :=
  World.ownsRow.kept (row := some g) h ⟨rfl, rfl, rfl, by simp [World.setCell], fun k hk hn => Below.heap_setCell w ⟨g, i, none⟩ x k (by rintro rfl; exact hn rfl)⟩ (Or.inr hne)
theorem WRow.drew {w : World} {base : Nat} {v : Value} {l : List W} (h : WRow w base v l) : WRow w.drew base v l := h
theorem Box4.drew {w : World} {g : Nat} {y : W} (h : Box4 w g y) : Box4 w.drew g y := h
theorem Box4.s01 {w : World} {g : Nat} {y : W} (h : Box4 w g y) (k : Nat) (s : List UInt8) (a : Int) (ha : a = (k : Int)) : Box4 ((w.setCell ⟨g, 0, none⟩ (.int .i64 a)).setCell ⟨g, 1, none⟩ (.string (str s))) g ⟨k, s, y.n, y.pos⟩ := by
  subst ha; unfold Box4 at h ⊢; simp [World.setCell, Array.getElem?_modify, h]
theorem Box4.s02 {w : World} {g : Nat} {y : W} (h : Box4 w g y) (k n : Nat) (a : Int) (ha : a = (k : Int)) : Box4 ((w.setCell ⟨g, 0, none⟩ (.int .i64 a)).setCell ⟨g, 2, none⟩ (.int .i64 (n : Int))) g ⟨k, y.s, n, y.pos⟩ := by
  subst ha; unfold Box4 at h ⊢; simp [World.setCell, Array.getElem?_modify, h]
/-- what the document's Words hands back -/
def RRet (w : World) (r : Option (List W) × Nat) (e : Ending) (w' : World) : Prop := Below w.heap.size w w' ∧ match r.1 with
  | some ws => ∃ v, e = .returned (.tuple #[v, .int .i64 0, .int .i64 0]) ∧ WRow w' w.heap.size v ws ∧ ws.length ≤ 1001
  | none => e = .returned (.tuple #[.slice none 0 0, .int .i64 (r.2 : Int), .int .i64 320])
theorem rwords_long (l : List UInt8) (h : 1000 < l.length) (w : World) : Calls Tryd.prog 24 #[.string (str l)] w fun e w' => e = .returned (.tuple #[.slice none 0 0, .int .i64 0, .int .i64 4]) ∧ Below w.heap.size w w' := by
  have h2 : (1000 : Int) < (l.length : Int) := by omega
  clear h
  go_enter Tryd.func24, Tryd.ntmps24
  go_wp2
  refine bodyPost_ret (v := .tuple #[.slice none 0 0, .int .i64 0, .int .i64 4]) (by simp [results, Tryd.results24, go_sem]) rfl ?_
  exact ⟨rfl, Below.refl _ _⟩

set_option maxHeartbeats 8000000 in
theorem rwords_any (l : List UInt8) (hl : l.length ≤ 1000) (w : World) :
    Calls Tryd.prog 24 #[.string (str l)] w fun e w' => RRet w (wordsL l) e w' := by
  have hlen : ¬ (1000 : Int) < (l.length : Int) := by omega
  obtain ⟨L, hL⟩ : ∃ L, L = l.length := ⟨_, rfl⟩
  have hL2 := Lib.hid hL
  have hsz : (str l).size = L := by rw [str_size, hL]
  rw [← hL] at hlen
  clear hL
  obtain ⟨rs, hrs⟩ : ∃ x, x = wordsL l := ⟨_, rfl⟩
  rw [← hrs]
  replace hrs := Lib.hid hrs; replace hl := Lib.hid hl
  go_enter Tryd.func24, Tryd.ntmps24
  go_wp2
  go_loopg [5, 6] L (fun gn s5 s6 wr => ∃ (q f : Nat) (acc : List W), s6 = .int .i64 (q : Int) ∧ q + gn = L ∧ (l.drop q).length < f ∧ wordsF f (l.drop q) q acc = rs ∧ acc.length ≤ q ∧ WRow wr w.heap.size s5 acc ∧ Below w.heap.size w wr)
  case atStart => exact ⟨0, l.length + 1, [], rfl, by omega, by simp, by rw [hrs.out]; rfl, Nat.le_refl _, World.ownsRow_lit w #[] 0 (Nat.le_refl _) (by decide) rfl, by go_grown⟩
  case round =>
    obtain ⟨q, f, acc, rfl, hq2, hf, hws, hal, hrow, hbel⟩ := hrel
    replace hal := Lib.hid hal; replace hrow := Lib.hid hrow; replace hbel := Lib.hid hbel
    obtain ⟨f, rfl⟩ : ∃ k, f = k + 1 := ⟨f - 1, by omega⟩
    have hal2 : acc.length < 1000000 := by have := hal.out; have := hl.out; have := hL2.out; omega
    replace hal2 := Lib.hid hal2
    by_cases hk : gk = 0
    · subst hk
      obtain rfl : q = L := by omega
      have hd : l.drop q = [] := List.drop_eq_nil_of_le (by have := hL2.out; omega)
      have hlt : ¬ ((q : Int) < (q : Int)) := by omega
      rw [hd, wordsF] at hws
      replace hws := Lib.hid hws
      clear hd hq2 hf
      go_wp2_with (at_builtin; refine wpList_append_word rfl _ _ rfl w.heap.size _ acc rfl (hrow.out.alloc _) _ _ ⟨0, [], 0, q⟩ rfl (new_word wr ⟨0, [], 0, q⟩ _) hal2.out ?hb ?_; (case hb => have := hbel.out.size; simp; omega); intro v2 w2 hrow2 hgrow2; replace hrow2 := Lib.hid hrow2; replace hgrow2 := Lib.hid hgrow2)
      refine bodyPost_ret (v := .tuple #[v2, .int .i64 0, .int .i64 0]) (by simp [results, Tryd.results24, go_sem]) rfl ?_
      refine ⟨(hbel.out.alloc hbel.out.size _).grown hgrow2.out (by have := hbel.out.size; simp; omega) (fun k hk => (hrow.out.lt k hk).1), ?_⟩
      rw [← hws.out]
      exact ⟨v2, rfl, hrow2.out, by have := hal.out; have := hl.out; have := hL2.out; simp; omega⟩
    · obtain ⟨K, rfl⟩ : ∃ K : Nat, gk = K + 1 := ⟨gk - 1, by omega⟩
      have hqL : q < L := by omega
      obtain ⟨c, hc⟩ : ∃ c, l[q]? = some c := ⟨_, List.getElem?_eq_getElem (show q < l.length by have := hL2.out; omega)⟩
      have hd := drop_at l q c hc
      have hg3 := at_str l q c hc
      have i0 : (0 : Int) ≤ (q : Int) := by omega
      have i1 : (q : Int) < (L : Int) := by omega
      have i3 : IntKind.i64.wrap ((q : Int) + 1) = (q : Int) + 1 := by have := hl.out; have := hL2.out; rw [IntKind.wrap_i64]; omega
      have cb := rblank_any c
      clear hk hc
      replace hq2 := Lib.hid hq2; replace hqL := Lib.hid hqL
      by_cases hbl : blankB c = true
      · rw [hbl] at cb
        rw [hd, wordsF, if_pos hbl] at hws
        rw [hd] at hf
        have hf2 : (l.drop (q + 1)).length < f := by simp only [List.length_cons] at hf; omega
        have hbel2 := hbel.out.alloc (hbel.out.size) (.cells #[.int .i64 0, .string ⟨#[]⟩, .int .i64 0, .int .i64 (q : Int)] 71)
        replace hws := Lib.hid hws; replace hf2 := Lib.hid hf2; replace cb := Lib.hid cb; replace hbel2 := Lib.hid hbel2
        clear hd hf hbl
        go_wp2_with (go_at_call 62; (with_reducible refine (cb.out _).mono ?_); rintro e w' ⟨rfl, rfl⟩)
        go_roundg K
        case measure => omega
        case rel => exact ⟨q + 1, f, acc, by go_num, by have := hq2.out; omega, hf2.out, hws.out, by have := hal.out; omega, hrow.out.alloc _, hbel2.out⟩
      · have hblf : blankB c = false := by simpa using hbl
        rw [hblf] at cb
        obtain ⟨r, hr⟩ : ∃ r, r = wordAt (l.drop q) q := ⟨_, rfl⟩
        rw [hd, wordsF, if_neg hbl, ← hd, ← hr] at hws
        have hlen2 := fun x k (h : wordAt (l.drop q) q = some (x, k)) => wordAt_len (l.drop q) q x k h
        have hr3 := hr
        rw [hd, wordAt] at hr3
        have cl := rletter_any c
        have cd := rdigit_any c
        have hqL2 := hqL.out
        have hLL := hL2.out
        have hl3 := hl.out
        have cn := fun w' => rname_any l q (by omega) (by omega) w'
        have ctx := fun w' => rtext_any l q (by omega) (by omega) w'
        have cmk := fun w' => rmark_any l q (by omega) (by omega) w'
        have hnl := nameN_le (l.drop q)
        have hml := markN_le (l.drop q)
        rw [List.length_drop] at hnl hml
        have i5 : decide (q < l.length) = true := by simp; omega
        have i6 : (q : Int) < (l.length : Int) := by omega
        clear hqL2 hl3
        replace hLL := Lib.hid hLL
        replace hws := Lib.hid hws; replace hf := Lib.hid hf; replace hlen2 := Lib.hid hlen2; replace hr := Lib.hid hr; replace hr3 := Lib.hid hr3; replace cb := Lib.hid cb; replace cn := Lib.hid cn; replace ctx := Lib.hid ctx; replace cmk := Lib.hid cmk
        have hd0 := Lib.hid hd
        clear hd hbl hblf
        go_upto_block 2 with fail
        obtain ⟨g, hg⟩ : ∃ g, g = wr.heap.size := ⟨_, rfl⟩
        have hb4 : Box4 (wr.alloc (.cells #[.int .i64 0, .string ⟨#[]⟩, .int .i64 0, .int .i64 (q : Int)] 71)) g ⟨0, [], 0, q⟩ := by rw [hg]; exact heap_alloc_new wr _
        have hrowb := hrow.out.alloc (.cells #[.int .i64 0, .string ⟨#[]⟩, .int .i64 0, .int .i64 (q : Int)] 71)
        have hbelb := hbel.out.alloc hbel.out.size (.cells #[.int .i64 0, .string ⟨#[]⟩, .int .i64 0, .int .i64 (q : Int)] 71)
        have hgw : w.heap.size ≤ g := by rw [hg]; exact hbel.out.size
        have hne : u5.ownBlock ≠ some g := by intro e; have := (hrow.out.lt g e).2; omega
        rw [← hg]
        generalize wr.alloc (.cells #[.int .i64 0, .string ⟨#[]⟩, .int .i64 0, .int .i64 (q : Int)] 71) = wb at *
        have z0 := hb4.cell 0; have z1 := hb4.cell 1; have z2 := hb4.cell 2; have z3 := hb4.cell 3
        have f0 := hb4.free 0; have f1 := hb4.free 1; have f2 := hb4.free 2; have f3 := hb4.free 3
        clear hg
        replace hb4 := Lib.hid hb4; replace hrowb := Lib.hid hrowb; replace hbelb := Lib.hid hbelb; replace hgw := Lib.hid hgw; replace hne := Lib.hid hne
        go_cut [6, 8, 10, 11, 12, 13] from 27 to 91 (fun s6 s8 s10 s11 s12 s13 wx => ∃ (n : Nat) (y : W), s6 = .int .i64 (q : Int) ∧ s8 = .int .i64 (n : Int) ∧ (n = 0 → wordAt (l.drop q) q = none) ∧ (0 < n → wordAt (l.drop q) q = some (y, n)) ∧ Box4 wx g y ∧ WRow wx w.heap.size u5 acc ∧ Below w.heap.size w wx)
        case first =>
          have hLL := hLL.out
          by_cases h1 : letB c = true
          · rw [h1] at cl
            obtain ⟨n, hn⟩ : ∃ n, n = nameN (l.drop q) := ⟨_, rfl⟩
            have hr4 : wordAt (l.drop q) q = some (⟨1, (l.drop q).take n, 0, q⟩, n) := by rw [← hr.out, hr3.out, if_pos h1, hn, hd0.out]
            have hpos : 0 < n := (hlen2.out _ _ hr4).1
            have cn2 := cn.out
            simp only [← hn] at cn2
            have hcut : (str l).extract q (q + n) = str ((l.drop q).take n) := by rw [cut_extract, show q + n - q = n by omega]
            have k1 : IntKind.i64.wrap ((q : Int) + (n : Int)) = ((q + n : Nat) : Int) := by rw [IntKind.wrap_i64]; omega
            have k2 : (q : Int) ≤ ((q + n : Nat) : Int) := by omega
            have k3 : ((q + n : Nat) : Int) ≤ (L : Int) := by omega
            have hn0 : n = 0 → wordAt (l.drop q) q = none := fun h => absurd h (by omega)
            have hn1 : 0 < n → wordAt (l.drop q) q = some (⟨1, (l.drop q).take n, 0, q⟩, n) := fun _ => hr4
            replace cl := Lib.hid cl; replace cd := Lib.hid cd; replace cn := Lib.hid cn2; replace hn0 := Lib.hid hn0; replace hn1 := Lib.hid hn1
            clear h1 hn cn2 hpos hr4 hnl hml hLL
            have cnum := Lib.hid True.intro
            go_upto_region 14 with (first
            | (go_at_call 62; (with_reducible refine (cb.out _).mono ?_); rintro e w' ⟨rfl, rfl⟩)
            | (go_at_call 63; (with_reducible refine (cl.out _).mono ?_); rintro e w' ⟨rfl, rfl⟩)
            | (go_at_call 65; (with_reducible refine (cd.out _).mono ?_); rintro e w' ⟨rfl, rfl⟩)
            | (go_at_call 64; (with_reducible refine (cn.out _).mono ?_); rintro e w' ⟨rfl, rfl⟩)
            | (go_at_call 66; (with_reducible refine (cnum.out _).mono ?_); rintro e w' ⟨rfl, rfl⟩)
            | (go_at_call 67; (with_reducible refine (ctx.out _).mono ?_); rintro e w' ⟨rfl, rfl⟩)
            | (go_at_call 68; (with_reducible refine (cmk.out _).mono ?_); rintro e w' ⟨rfl, rfl⟩))
            go_region_with fail
            all_goals (go_wp2_with fail)
            all_goals go_meet
            all_goals exact ⟨n, _, rfl, rfl, hn0.out, hn1.out, (hb4.out.s01 1 _ 1 rfl).drew, ((hrowb.out.setNe hne.out).setNe hne.out).drew, ((hbelb.out.setCell (p := ⟨g, _, none⟩) hgw.out _).setCell (p := ⟨g, _, none⟩) hgw.out _).drew⟩
          · have h1f : letB c = false := by simpa using h1
            rw [h1f] at cl
            by_cases h2 : digB c = true
            · rw [h2] at cd
              obtain ⟨n, hn⟩ : ∃ n, n = nameN (l.drop q) := ⟨_, rfl⟩
              have hpos : 0 < n := by rw [hn, hd0.out, nameN, if_pos (by unfold wordB; rw [h2]; simp)]; omega
              have hscan := scan_rnum (l.drop q) 0 0
              rw [← hn] at hscan
              have hr4 : wordAt (l.drop q) q = (rnum ((l.drop q).take n) 0).map fun m => ((⟨2, [], m, q⟩ : W), n) := by
                rw [← hr.out, hr3.out, if_neg h1, if_pos h2, ← hd0.out, hscan]
                cases rnum ((l.drop q).take n) 0 <;> simp
              have cn2 := cn.out
              simp only [← hn] at cn2
              have hcut : (str l).extract q (q + n) = str ((l.drop q).take n) := by rw [cut_extract, show q + n - q = n by omega]
              have cnum0 := fun w' => rnumber_any ((l.drop q).take n) (by rw [List.length_take, List.length_drop]; have := hl.out; omega) w'
              have k1 : IntKind.i64.wrap ((q : Int) + (n : Int)) = ((q + n : Nat) : Int) := by have := hl.out; rw [IntKind.wrap_i64]; omega
              have k2 : (q : Int) ≤ ((q + n : Nat) : Int) := by omega
              have k3 : ((q + n : Nat) : Int) ≤ (L : Int) := by omega
              have k4 : ((q + n : Nat) : Int) ≤ (l.length : Int) := by omega
              have hn0 : n = 0 → wordAt (l.drop q) q = none := fun h => absurd h (by omega)
              obtain ⟨o, ho⟩ : ∃ o, o = rnum ((l.drop q).take n) 0 := ⟨_, rfl⟩
              rw [← ho] at hr4
              simp only [← ho] at cnum0
              cases o with
              | none =>
                have hws3 := hws.out
                rw [hr.out, hr4] at hws3
                have cnum : ∀ w', Calls Tryd.prog 66 #[.string (str ((l.drop q).take n))] w' fun e w2 => e = .returned (.tuple #[.int .i64 0, .bool false]) ∧ w' = w2 := cnum0
                replace cl := Lib.hid cl; replace cd := Lib.hid cd; replace cn := Lib.hid cn2; replace hn0 := Lib.hid hn0; replace cnum := Lib.hid cnum; replace hws3 := Lib.hid hws3
                clear h1 h1f h2 hn cn2 hpos hr4 hnl hml hLL hscan ho cnum0
                go_wp2_with (first
            | (go_at_call 62; (with_reducible refine (cb.out _).mono ?_); rintro e w' ⟨rfl, rfl⟩)
            | (go_at_call 63; (with_reducible refine (cl.out _).mono ?_); rintro e w' ⟨rfl, rfl⟩)
            | (go_at_call 65; (with_reducible refine (cd.out _).mono ?_); rintro e w' ⟨rfl, rfl⟩)
            | (go_at_call 64; (with_reducible refine (cn.out _).mono ?_); rintro e w' ⟨rfl, rfl⟩)
            | (go_at_call 66; (with_reducible refine (cnum.out _).mono ?_); rintro e w' ⟨rfl, rfl⟩)
            | (go_at_call 67; (with_reducible refine (ctx.out _).mono ?_); rintro e w' ⟨rfl, rfl⟩)
            | (go_at_call 68; (with_reducible refine (cmk.out _).mono ?_); rintro e w' ⟨rfl, rfl⟩))
                refine bodyPost_ret (v := .tuple #[.slice none 0 0, .int .i64 (q : Int), .int .i64 320]) (by simp [results, Tryd.results24, go_sem]) rfl ?_
                refine ⟨hbelb.out, ?_⟩
                rw [← hws3.out]
                rfl
              | some m =>
                have hn1 : 0 < n → wordAt (l.drop q) q = some (⟨2, [], m, q⟩, n) := fun _ => hr4
                have cnum : ∀ w', Calls Tryd.prog 66 #[.string (str ((l.drop q).take n))] w' fun e w2 => e = .returned (.tuple #[.int .i64 (m : Int), .bool true]) ∧ w' = w2 := cnum0
                replace cl := Lib.hid cl; replace cd := Lib.hid cd; replace cn := Lib.hid cn2; replace hn0 := Lib.hid hn0; replace cnum := Lib.hid cnum; replace hn1 := Lib.hid hn1
                clear h1 h1f h2 hn cn2 hpos hr4 hnl hml hLL hscan ho cnum0
                go_wp2_with (first
            | (go_at_call 62; (with_reducible refine (cb.out _).mono ?_); rintro e w' ⟨rfl, rfl⟩)
            | (go_at_call 63; (with_reducible refine (cl.out _).mono ?_); rintro e w' ⟨rfl, rfl⟩)
            | (go_at_call 65; (with_reducible refine (cd.out _).mono ?_); rintro e w' ⟨rfl, rfl⟩)
            | (go_at_call 64; (with_reducible refine (cn.out _).mono ?_); rintro e w' ⟨rfl, rfl⟩)
            | (go_at_call 66; (with_reducible refine (cnum.out _).mono ?_); rintro e w' ⟨rfl, rfl⟩)
            | (go_at_call 67; (with_reducible refine (ctx.out _).mono ?_); rintro e w' ⟨rfl, rfl⟩)
            | (go_at_call 68; (with_reducible refine (cmk.out _).mono ?_); rintro e w' ⟨rfl, rfl⟩))
                all_goals go_meet
                all_goals exact ⟨n, _, rfl, rfl, hn0.out, hn1.out, (hb4.out.s02 2 m 2 rfl), ((hrowb.out.setNe hne.out).setNe hne.out), ((hbelb.out.setCell (p := ⟨g, _, none⟩) hgw.out _).setCell (p := ⟨g, _, none⟩) hgw.out _)⟩
            · have h2f : digB c = false := by simpa using h2
              rw [h2f] at cd
              by_cases h3 : c.toNat = 34
              · have q34 : ((c.toNat : Int) == 34) = true := by simp; omega
                have hr4 : wordAt (l.drop q) q = (txtScan (l.drop (q + 1)) false [] 1).map fun x => ((⟨3, x.1, 0, q⟩ : W), x.2) := by
                  rw [← hr.out, hr3.out, if_neg h1, if_neg h2, if_pos h3]
                have cnum := Lib.hid True.intro
                have ctx0 := ctx.out
                obtain ⟨o, ho⟩ : ∃ o, o = txtScan (l.drop (q + 1)) false [] 1 := ⟨_, rfl⟩
                rw [← ho] at hr4
                simp only [← ho] at ctx0
                cases o with
                | none =>
                  obtain ⟨n, hn⟩ : ∃ n, n = 0 := ⟨_, rfl⟩
                  have hn0 : n = 0 → wordAt (l.drop q) q = none := fun _ => hr4
                  have hn1 : 0 < n → wordAt (l.drop q) q = some (⟨3, [], 0, q⟩, n) := fun h => absurd h (by omega)
                  have ctx1 : ∀ w', Calls Tryd.prog 67 #[.string (str l), .int .i64 (q : Int)] w' fun e w2 => e = .returned (.tuple #[.string (str []), .int .i64 (n : Int)]) ∧ w' = w2 := fun w' => by rw [hn]; exact ctx0 w'
                  replace cl := Lib.hid cl; replace cd := Lib.hid cd; replace hn0 := Lib.hid hn0; replace hn1 := Lib.hid hn1; replace h3 := Lib.hid h3
                  clear ctx
                  have ctx := Lib.hid ctx1
                  clear h1 h1f h2 h2f hn hr4 hnl hml hLL ho ctx0 ctx1
                  go_wp2_with (first
            | (go_at_call 62; (with_reducible refine (cb.out _).mono ?_); rintro e w' ⟨rfl, rfl⟩)
            | (go_at_call 63; (with_reducible refine (cl.out _).mono ?_); rintro e w' ⟨rfl, rfl⟩)
            | (go_at_call 65; (with_reducible refine (cd.out _).mono ?_); rintro e w' ⟨rfl, rfl⟩)
            | (go_at_call 64; (with_reducible refine (cn.out _).mono ?_); rintro e w' ⟨rfl, rfl⟩)
            | (go_at_call 66; (with_reducible refine (cnum.out _).mono ?_); rintro e w' ⟨rfl, rfl⟩)
            | (go_at_call 67; (with_reducible refine (ctx.out _).mono ?_); rintro e w' ⟨rfl, rfl⟩)
            | (go_at_call 68; (with_reducible refine (cmk.out _).mono ?_); rintro e w' ⟨rfl, rfl⟩))
                  all_goals go_meet
                  all_goals exact ⟨n, _, rfl, rfl, hn0.out, hn1.out, (hb4.out.s01 3 _ 3 rfl), ((hrowb.out.setNe hne.out).setNe hne.out), ((hbelb.out.setCell (p := ⟨g, _, none⟩) hgw.out _).setCell (p := ⟨g, _, none⟩) hgw.out _)⟩
                | some x =>
                  obtain ⟨tt, n⟩ := x
                  have hpos : 0 < n := (hlen2.out _ _ hr4).1
                  have hn0 : n = 0 → wordAt (l.drop q) q = none := fun h => absurd h (by omega)
                  have hn1 : 0 < n → wordAt (l.drop q) q = some (⟨3, tt, 0, q⟩, n) := fun _ => hr4
                  have ctx1 : ∀ w', Calls Tryd.prog 67 #[.string (str l), .int .i64 (q : Int)] w' fun e w2 => e = .returned (.tuple #[.string (str tt), .int .i64 (n : Int)]) ∧ w' = w2 := fun w' => ctx0 w'
                  replace cl := Lib.hid cl; replace cd := Lib.hid cd; replace hn0 := Lib.hid hn0; replace hn1 := Lib.hid hn1; replace h3 := Lib.hid h3
                  clear ctx
                  have ctx := Lib.hid ctx1
                  clear h1 h1f h2 h2f hpos hr4 hnl hml hLL ho ctx0 ctx1
                  go_wp2_with (first
            | (go_at_call 62; (with_reducible refine (cb.out _).mono ?_); rintro e w' ⟨rfl, rfl⟩)
            | (go_at_call 63; (with_reducible refine (cl.out _).mono ?_); rintro e w' ⟨rfl, rfl⟩)
            | (go_at_call 65; (with_reducible refine (cd.out _).mono ?_); rintro e w' ⟨rfl, rfl⟩)
            | (go_at_call 64; (with_reducible refine (cn.out _).mono ?_); rintro e w' ⟨rfl, rfl⟩)
            | (go_at_call 66; (with_reducible refine (cnum.out _).mono ?_); rintro e w' ⟨rfl, rfl⟩)
            | (go_at_call 67; (with_reducible refine (ctx.out _).mono ?_); rintro e w' ⟨rfl, rfl⟩)
            | (go_at_call 68; (with_reducible refine (cmk.out _).mono ?_); rintro e w' ⟨rfl, rfl⟩))
                  all_goals go_meet
                  all_goals exact ⟨n, _, rfl, rfl, hn0.out, hn1.out, (hb4.out.s01 3 _ 3 rfl), ((hrowb.out.setNe hne.out).setNe hne.out), ((hbelb.out.setCell (p := ⟨g, _, none⟩) hgw.out _).setCell (p := ⟨g, _, none⟩) hgw.out _)⟩
              · have q34 : ((c.toNat : Int) == 34) = false := by simp; omega
                obtain ⟨n, hn⟩ : ∃ n, n = markN (l.drop q) := ⟨_, rfl⟩
                have hr4 : wordAt (l.drop q) q = if n = 0 then none else some (⟨4, (l.drop q).take n, 0, q⟩, n) := by
                  rw [← hr.out, hr3.out, if_neg h1, if_neg h2, if_neg h3, ← hd0.out, hn]
                have cmk0 := cmk.out
                simp only [← hn] at cmk0
                have hcut : (str l).extract q (q + n) = str ((l.drop q).take n) := by rw [cut_extract, show q + n - q = n by omega]
                have k1 : IntKind.i64.wrap ((q : Int) + (n : Int)) = ((q + n : Nat) : Int) := by have := hl.out; rw [IntKind.wrap_i64]; omega
                have k2 : (q : Int) ≤ ((q + n : Nat) : Int) := by omega
                have k3 : ((q + n : Nat) : Int) ≤ (L : Int) := by omega
                have hn0 : n = 0 → wordAt (l.drop q) q = none := fun h => by rw [hr4, if_pos h]
                have hn1 : 0 < n → wordAt (l.drop q) q = some (⟨4, (l.drop q).take n, 0, q⟩, n) := fun h => by rw [hr4, if_neg (by omega)]
                have cnum := Lib.hid True.intro
                replace cl := Lib.hid cl; replace cd := Lib.hid cd; replace hn0 := Lib.hid hn0; replace hn1 := Lib.hid hn1; replace h3 := Lib.hid h3
                clear cmk
                have cmk := Lib.hid cmk0
                clear h1 h1f h2 h2f hn hr4 hnl hml hLL cmk0
                go_upto_region 9 with (first
            | (go_at_call 62; (with_reducible refine (cb.out _).mono ?_); rintro e w' ⟨rfl, rfl⟩)
            | (go_at_call 63; (with_reducible refine (cl.out _).mono ?_); rintro e w' ⟨rfl, rfl⟩)
            | (go_at_call 65; (with_reducible refine (cd.out _).mono ?_); rintro e w' ⟨rfl, rfl⟩)
            | (go_at_call 64; (with_reducible refine (cn.out _).mono ?_); rintro e w' ⟨rfl, rfl⟩)
            | (go_at_call 66; (with_reducible refine (cnum.out _).mono ?_); rintro e w' ⟨rfl, rfl⟩)
            | (go_at_call 67; (with_reducible refine (ctx.out _).mono ?_); rintro e w' ⟨rfl, rfl⟩)
            | (go_at_call 68; (with_reducible refine (cmk.out _).mono ?_); rintro e w' ⟨rfl, rfl⟩))
                go_region_with fail
                all_goals (go_wp2_with fail)
                all_goals go_meet
                all_goals exact ⟨n, _, rfl, rfl, hn0.out, hn1.out, (hb4.out.s01 4 _ 4 rfl).drew, ((hrowb.out.setNe hne.out).setNe hne.out).drew, ((hbelb.out.setCell (p := ⟨g, _, none⟩) hgw.out _).setCell (p := ⟨g, _, none⟩) hgw.out _).drew⟩
        case rest =>
          obtain ⟨n, y, rfl, rfl, hn0, hn1, hb5, hrow5, hbel5⟩ := hcut
          clear z0 z1 z2 z3 f0 f1 f2 f3
          replace hrow5 := Lib.hid hrow5; replace hbel5 := Lib.hid hbel5
          have hws3 := hws.out
          have hqLv := hqL.out
          have hfv := hf.out
          have hl3 := hl.out
          have hLL := hLL.out
          by_cases hz : n = 0
          · subst hz
            rw [hr.out, hn0 rfl] at hws3
            replace hws3 := Lib.hid hws3; replace hb5 := Lib.hid hb5
            clear hn0 hn1 hfv hLL hnl hml hqLv
            go_wp2
            refine bodyPost_ret (v := .tuple #[.slice none 0 0, .int .i64 (q : Int), .int .i64 320]) (by simp [results, Tryd.results24, go_sem]) rfl ?_
            refine ⟨hbel5.out, ?_⟩
            rw [← hws3.out]
          · have hr5 := hn1 (by omega)
            have hk2 := hlen2.out y n hr5
            rw [hr.out, hr5] at hws3
            simp only [List.drop_drop] at hws3
            have n0 : ((n : Int) == 0) = false := by simp; omega
            have n1 : ¬ (n : Int) = 0 := by omega
            have hnL : q + n ≤ L := by have h6 := hk2.2; rw [List.length_drop] at h6; omega
            have hfn : (l.drop (q + n)).length < f := by rw [List.length_drop] at hfv ⊢; omega
            have k1 : IntKind.i64.wrap ((q : Int) + (n : Int)) = ((q + n : Nat) : Int) := by rw [IntKind.wrap_i64]; omega
            have z0 := hb5.cell 0; have z1 := hb5.cell 1; have z2 := hb5.cell 2; have z3 := hb5.cell 3
            obtain ⟨K2, hK2⟩ : ∃ K2, q + n + K2 = L := ⟨L - (q + n), by omega⟩
            have hK3 : K2 < K + 1 := by have := hq2.out; have := hk2.1; omega
            have haq : acc.length + 1 ≤ q + n := by have := hal.out; have := hk2.1; omega
            replace hws3 := Lib.hid hws3; replace hfn := Lib.hid hfn; replace hK2 := Lib.hid hK2; replace hK3 := Lib.hid hK3; replace haq := Lib.hid haq; replace hb5 := Lib.hid hb5
            clear hn0 hn1 hr5 hk2 hnL hfv hz hqLv hLL hnl hml
            go_wp2_with (at_builtin; refine wpList_append_word rfl _ _ rfl w.heap.size _ acc rfl (hrow5.out.alloc _) _ _ y rfl (new_word _ y _) hal2.out ?hb ?_; (case hb => have := hbel5.out.size; simp; omega); intro v2 w2 hrow2 hgrow2; have hbel6 := (hbel5.out.alloc hbel5.out.size _).grown hgrow2 (by have := hbel5.out.size; simp; omega) (fun b hb => (hrow5.out.lt b hb).1); replace hrow2 := Lib.hid hrow2; replace hbel6 := Lib.hid hbel6; clear hgrow2)
            go_roundg K2
            case measure => have := hK3.out; omega
            case rel => exact ⟨q + n, f, acc ++ [y], rfl, hK2.out, hfn.out, hws3.out, by rw [List.length_append]; exact haq.out, hrow2.out, hbel6.out⟩

end Go.Proofs.YtgbkpkioijbgoaaDoor.lex
