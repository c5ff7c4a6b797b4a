/- A node or an edge as a text, as the statements have it (lodestonelaw41.info). The table of powers of ten is a premise. -/
import Derived.Test.YtgbkpkioijbgoaaDoorShowF
namespace Go.Proofs.YtgbkpkioijbgoaaDoor.show
open Go.RowKit
attribute [local go_sem ↓] Go.wp_at_zero Go.wp_at_succ
set_option linter.unusedVariables false
set_option linter.unusedSimpArgs false
set_option maxRecDepth 100000

theorem app3 (a b c : ByteArray) : a ++ b ++ c = a ++ (b ++ c) := by
  apply ByteArray.ext; simp [ByteArray.data_append, Array.append_assoc]
/-- the text when so many properties are told -/
def partT (H : ByteArray) (xs : List ByteArray) : ByteArray := if xs = [] then H else (H ++ ⟨#[32, 123]⟩) ++ joinS xs ⟨#[44, 32]⟩
theorem partT_first (H y : ByteArray) : partT H [y] = (H ++ ⟨#[32, 123]⟩) ++ y := by
  have := joinS_snoc [] ⟨#[44, 32]⟩ y
  simp at this
  simp [partT, this]
theorem partT_next (H y : ByteArray) (xs : List ByteArray) (h : xs ≠ []) : partT H (xs ++ [y]) = (partT H xs ++ ⟨#[44, 32]⟩) ++ y := by
  have := joinS_snoc xs ⟨#[44, 32]⟩ y
  rw [if_neg h] at this
  unfold partT
  rw [if_neg (by simp), if_neg h, this]
  simp only [app3]
set_option maxHeartbeats 8000000 in
theorem linfo_any (x : In) (la : Option Addr) (lc : Nat) (pa : Option Addr) (pc : Nat) (w : World) (hT : Tab w) (hN : x.near) (hl : Sl w (.slice la x.labels.length lc) x.labels.length (x.labels.map Value.string)) (hP : Sl w (.slice pa x.props.length pc) x.props.length (x.props.flatMap P4.cells)) :
    Calls Tryd.prog 13 #[.agg #[.int .u64 x.id, .bool x.edge, .slice la x.labels.length lc, .string x.typ, .int .u64 x.fr, .int .u64 x.dst, .slice pa x.props.length pc]] w fun e w' => e = .returned (.string x.text) ∧ Below w.heap.size w w' := by
  have hhs := x.head_size hN
  have hps := props_size x.props hN.props.1 hN.props.2
  have kI : ∀ y : Int, 0 ≤ y ∧ y < 18446744073709551616 → ∀ W, Below w.heap.size w W → Calls Tryd.prog 11 #[.int .u64 y, .int .i64 10] W fun e w' => e = .returned (.string (numT y)) ∧ Below W.heap.size W w' := fun y hy W hb => by
    obtain ⟨u, rfl⟩ : ∃ u : Nat, y = (u : Int) := ⟨y.toNat, by omega⟩
    exact fmt_any u (by omega) W (hT.keep hb)
  have k1 := kI x.id hN.id
  have k2 := kI x.fr hN.fr
  have k3 := kI x.dst hN.dst
  have z1 := numT_lenU _ hN.id; have z2 := numT_lenU _ hN.fr; have z3 := numT_lenU _ hN.dst; have z4 := hN.typ
  have kv : ∀ y, y ∈ x.props → ∀ W, Below w.heap.size w W → Calls Tryd.prog 15 #[.agg #[.int .i64 y.val.k, .int .i64 y.val.n, .string y.val.s]] W fun e w' => e = .returned (.string y.val.text) ∧ Below W.heap.size W w' := fun y hy W hb =>
    lval_any y.val.k y.val.n y.val.s (hN.props.2 y hy).2 W (hT.keep hb)
  have hlz := hN.labels
  have hpz := hN.props
  obtain ⟨id, edge, labels, typ, fr, dst, props⟩ := x
  simp only at *
  obtain ⟨J, hJ⟩ : ∃ J, J = joinS (props.map P4.text) ⟨#[44, 32]⟩ := ⟨_, rfl⟩
  rw [← hJ] at hps
  have hT0 : props.length = 0 → In.text ⟨id, edge, labels, typ, fr, dst, props⟩ = In.head ⟨id, edge, labels, typ, fr, dst, props⟩ := fun h => by unfold In.text; rw [if_pos (List.eq_nil_of_length_eq_zero h)]
  have hT1 : ¬ props.length = 0 → In.text ⟨id, edge, labels, typ, fr, dst, props⟩ = ((In.head ⟨id, edge, labels, typ, fr, dst, props⟩ ++ ⟨#[32, 123]⟩) ++ J) ++ ⟨#[125]⟩ := fun h => by unfold In.text; rw [if_neg (fun e => h (by simp at e; simp [e])), hJ]
  obtain ⟨R, hR⟩ : ∃ R, R = In.text ⟨id, edge, labels, typ, fr, dst, props⟩ := ⟨_, rfl⟩
  rw [← hR] at hT0 hT1 ⊢
  have hH : In.head ⟨id, edge, labels, typ, fr, dst, props⟩ = if edge then headE (numT id) (numT fr) (numT dst) typ else labT ((⟨#[110, 111, 100, 101, 32]⟩ : ByteArray) ++ numT id) labels := rfl
  obtain ⟨H, hH2⟩ : ∃ H, H = In.head ⟨id, edge, labels, typ, fr, dst, props⟩ := ⟨_, rfl⟩
  rw [← hH2] at hT0 hT1 hH hhs
  obtain ⟨A, hA⟩ : ∃ A, A = numT id := ⟨_, rfl⟩
  obtain ⟨F, hF⟩ : ∃ F, F = numT fr := ⟨_, rfl⟩
  obtain ⟨T, hTo⟩ : ∃ T, T = numT dst := ⟨_, rfl⟩
  rw [← hA] at k1 z1 hH
  rw [← hF] at k2 z2 hH
  rw [← hTo] at k3 z3 hH
  obtain ⟨ln, hln⟩ : ∃ n, n = labels.length := ⟨_, rfl⟩
  obtain ⟨np, hnp⟩ : ∃ n, n = props.length := ⟨_, rfl⟩
  rw [← hln] at hl hlz ⊢
  rw [← hnp] at hP hpz hT0 hT1 ⊢
  have hp0 := (Hp.none_ w []).alloc #[.int .u64 id, .bool edge, .slice la ln lc, .string typ, .int .u64 fr, .int .u64 dst, .slice pa np pc] 48
  clear hR hH2 hA hF hTo kI hT hN
  replace hJ := Lib.hid hJ
  replace hl := slAt hl
  replace hP := slAt hP
  obtain ⟨hln1, hlz2⟩ := hlz
  obtain ⟨hnp1, hpz2⟩ := hpz
  replace hp0 := Lib.hid hp0; replace k1 := Lib.hid k1; replace k2 := Lib.hid k2; replace k3 := Lib.hid k3; replace kv := Lib.hid kv; replace hT0 := Lib.hid hT0; replace hT1 := Lib.hid hT1; replace hH := Lib.hid hH
  replace hl := Lib.hid hl; replace hP := Lib.hid hP; replace hlz2 := Lib.hid hlz2; replace hpz2 := Lib.hid hpz2; replace hln := Lib.hid hln; replace hnp := Lib.hid hnp; replace hhs := Lib.hid hhs; replace hps := Lib.hid hps
  go_enter Tryd.func13, Tryd.ntmps13
  go_upto_region 1 with fail
  generalize w.alloc _ = W at hp0 ⊢
  generalize hq2 : w.heap.size = q at hp0 ⊢
  clear hq2
  have c0 := hp0.out.cell (i := 0) rfl 0; have c1 := hp0.out.cell (i := 0) rfl 1; have c2 := hp0.out.cell (i := 0) rfl 2; have c3 := hp0.out.cell (i := 0) rfl 3; have c4 := hp0.out.cell (i := 0) rfl 4; have c5 := hp0.out.cell (i := 0) rfl 5; have c6 := hp0.out.cell (i := 0) rfl 6
  simp at c0 c1 c2 c3 c4 c5 c6
  cases edge with
  | true =>
    have hH1 := hH.out
    rw [if_pos rfl] at hH1
    unfold headE at hH1
    replace hH1 := Lib.hid hH1
    go_upto_region 3 with (go_at_call 11; (with_reducible refine (k1.out _ hp0.out.bel).mono ?_); rintro e w1 ⟨rfl, b1⟩; replace hp0 := Lib.hid (hp0.out.below b1); have c0 := hp0.out.cell (i := 0) rfl 0; have c1 := hp0.out.cell (i := 0) rfl 1; have c2 := hp0.out.cell (i := 0) rfl 2; have c3 := hp0.out.cell (i := 0) rfl 3; have c4 := hp0.out.cell (i := 0) rfl 4; have c5 := hp0.out.cell (i := 0) rfl 5; have c6 := hp0.out.cell (i := 0) rfl 6; simp at c0 c1 c2 c3 c4 c5 c6)
    have hw := Lib.hid (show ∀ (W w1 : World), Hp w [] [.box q #[.int .u64 id, .bool true, .slice la ln lc, .string typ, .int .u64 fr, .int .u64 dst, .slice pa np pc] 48] W → Below W.heap.size W w1 → (Hp w [] [.box q #[.int .u64 id, .bool true, .slice la ln lc, .string typ, .int .u64 fr, .int .u64 dst, .slice pa np pc] 48] w1 ∧ w1.cell? ⟨q, 0, none⟩ = some (.int .u64 id) ∧ w1.cell? ⟨q, 3, none⟩ = some (.string typ) ∧ w1.cell? ⟨q, 4, none⟩ = some (.int .u64 fr) ∧ w1.cell? ⟨q, 5, none⟩ = some (.int .u64 dst)) from fun W w1 h b => by have hq := h.below b; exact ⟨hq, hq.cell (i := 0) rfl 0, hq.cell (i := 0) rfl 3, hq.cell (i := 0) rfl 4, hq.cell (i := 0) rfl 5⟩)
    have g1 : ¬9223372036854775807 < 5 + A.size := by omega
    have g2 : ¬9223372036854775807 < 5 + A.size + 1 := by omega
    have g3 : ¬9223372036854775807 < 5 + A.size + 1 + F.size := by omega
    have g4 : ¬9223372036854775807 < 5 + A.size + 1 + F.size + 1 := by omega
    have g5 : ¬9223372036854775807 < 5 + A.size + 1 + F.size + 1 + typ.size := by omega
    have g6 : ¬9223372036854775807 < 5 + A.size + 1 + F.size + 1 + typ.size + 2 := by omega
    have g7 : ¬9223372036854775807 < 5 + A.size + 1 + F.size + 1 + typ.size + 2 + T.size := by omega
    go_region_held3 (fun W' => Hp w [] [.box q #[.int .u64 id, .bool true, .slice la ln lc, .string typ, .int .u64 fr, .int .u64 dst, .slice pa np pc] 48] W' ∧ W'.cell? ⟨q, 0, none⟩ = some (.int .u64 id) ∧ W'.cell? ⟨q, 3, none⟩ = some (.string typ) ∧ W'.cell? ⟨q, 4, none⟩ = some (.int .u64 fr) ∧ W'.cell? ⟨q, 5, none⟩ = some (.int .u64 dst))
      (first
        | exact ⟨hp0.out.drew, c0, c3, c4, c5⟩
        | (go_split_ands; exact ⟨by assumption, by assumption, by assumption, by assumption, by assumption⟩)
        | (go_split_ands; exact hw.out _ _ (by assumption) (by assumption)))
      (first
        | (go_at_call 11; (with_reducible refine (k1.out _ (by go_split_ands; exact Hp.bel (by assumption))).mono ?_); rintro e' w1 ⟨rfl, hb⟩)
        | (go_at_call 11; (with_reducible refine (k2.out _ (by go_split_ands; exact Hp.bel (by assumption))).mono ?_); rintro e' w1 ⟨rfl, hb⟩)
        | (go_at_call 11; (with_reducible refine (k3.out _ (by go_split_ands; exact Hp.bel (by assumption))).mono ?_); rintro e' w1 ⟨rfl, hb⟩))
    obtain ⟨hp, -, -, -, -⟩ := ‹Hp _ _ _ _ ∧ _›
    rw [← hH1.out]
    have c6 := hp.cell (i := 0) rfl 6
    have c2 := hp.cell (i := 0) rfl 2
    have c1 := hp.cell (i := 0) rfl 1
    simp at c6 c2 c1
    replace hp := Lib.hid hp
    clear g1 g2 g3 g4 g5 g6 g7 hw hp0 k1 k2 k3
    have hT2 : True := trivial
    go_upto_region 5 with fail
    go_loopg [3, 4] 0 (fun kk s3 s4 wr => s4 = .int .i64 0 ∧ kk = 0 ∧ s3 = .string H ∧ Hp w [] [.box q #[.int .u64 id, .bool true, .slice la ln lc, .string typ, .int .u64 fr, .int .u64 dst, .slice pa np pc] 48] wr)
    case atStart => exact ⟨rfl, rfl, rfl, hp.out⟩
    case round =>
      clear hp c6 c2 c1
      obtain ⟨rfl, hk, rfl, hp⟩ := hrel
      subst hk
      have c1 := hp.cell (i := 0) rfl 1
      have c2 := hp.cell (i := 0) rfl 2
      simp at c1 c2
      replace hp := Lib.hid hp
      have hb : ∃ z, decide ((0 : Int) < (ln : Int)) = z := ⟨_, rfl⟩
      by_cases hl0 : (0 : Int) < (ln : Int)
      · go_upto_region 9 with fail
        clear hT2
        go_loopg [3, 5] np (fun kk s3 s5 wr => ∃ i : Nat, s5 = .int .i64 (i : Int) ∧ i + kk = np ∧ s3 = .string (partT H ((props.take i).map P4.text)) ∧ Hp w [] [.box q #[.int .u64 id, .bool true, .slice la ln lc, .string typ, .int .u64 fr, .int .u64 dst, .slice pa np pc] 48] wr)
        case atStart => exact ⟨0, rfl, by omega, rfl, hp.out⟩
        case round =>
          clear hp
          obtain ⟨i, rfl, hik, rfl, hp⟩ := hrel
          have c6 := hp.cell (i := 0) rfl 6
          simp at c6
          by_cases hlt : i < np
          · obtain ⟨K, rfl⟩ : ∃ K : Nat, gk = K + 1 := ⟨gk - 1, by omega⟩
            obtain ⟨b, o, rfl, hr⟩ := hP.out.resolve_left (by omega)
            obtain ⟨y, hy⟩ : ∃ y, props[i]? = some y := ⟨_, List.getElem?_eq_getElem (by have := hnp.out; omega)⟩
            have hf : (props.take (i + 1)).map P4.text = (props.take i).map P4.text ++ [y.text] := by rw [List.take_add_one, hy]; simp
            have hcx := kv.out y (List.mem_of_getElem? hy)
            have hys := hpz2.out y (List.mem_of_getElem? hy)
            have hsz := show.text_size _ hys.2
            have hnz := hys.1
            have hpsz := props_size (props.take i) (by rw [List.length_take]; omega) (fun z hz => hpz2.out z (List.mem_of_mem_take hz))
            have hlen : ((props.take i).map P4.text).length = i := by rw [List.length_map, List.length_take]; have := hnp.out; omega
            have d0 : wr.cell? ⟨b, o + i * 4, none⟩ = some (.string y.name) := (hp.bel.cell hr.1).trans (hr.elem0 P4.cells_len hy rfl)
            have d1 : wr.cell? ⟨b, o + i * 4 + 1, none⟩ = some (.int .i64 y.val.k) := (hp.bel.cell hr.1).trans (hr.elem P4.cells_len hy rfl)
            have d2 : wr.cell? ⟨b, o + i * 4 + 2, none⟩ = some (.int .i64 y.val.n) := (hp.bel.cell hr.1).trans (hr.elem P4.cells_len hy rfl)
            have d3 : wr.cell? ⟨b, o + i * 4 + 3, none⟩ = some (.string y.val.s) := (hp.bel.cell hr.1).trans (hr.elem P4.cells_len hy rfl)
            have hbl : b < w.heap.size := hr.1
            have e1 : (0 : Int) ≤ (i : Int) := by omega
            have e2 : (i : Int) < (np : Int) := by omega
            obtain ⟨nm, xk, xn, xs⟩ := y
            have hte : P4.text ⟨nm, xk, xn, xs⟩ = (nm ++ ⟨#[58, 32]⟩) ++ V3.text ⟨xk, xn, xs⟩ := rfl
            rw [hte] at hf
            obtain ⟨Y, hY⟩ : ∃ Y, Y = V3.text ⟨xk, xn, xs⟩ := ⟨_, rfl⟩
            simp only at hcx d0 d1 d2 d3 hnz hsz
            rw [← hY] at hcx hf hsz
            obtain ⟨xsl, hxs⟩ : ∃ l, l = (props.take i).map P4.text := ⟨_, rfl⟩
            rw [← hxs] at hf hpsz hlen ⊢
            rw [hxs] at hpsz
            rw [← hxs] at hpsz
            obtain ⟨M, hM⟩ : ∃ M, M = partT H xsl := ⟨_, rfl⟩
            have hMz : M.size ≤ 1300 := by
              rw [hM]; unfold partT
              have e5 : (⟨#[32, 123]⟩ : ByteArray).size = 2 := rfl
              have := hhs.out
              split
              · omega
              · rw [ByteArray.size_append, ByteArray.size_append]; omega
            have hs0 : i = 0 → partT H (xsl ++ [(nm ++ ⟨#[58, 32]⟩) ++ Y]) = (M ++ ⟨#[32, 123]⟩) ++ ((nm ++ ⟨#[58, 32]⟩) ++ Y) := fun h => by
              have h0 : xsl = [] := List.eq_nil_of_length_eq_zero (by omega)
              have h1 : M = H := by rw [hM, h0]; rfl
              rw [h1, h0]; exact partT_first _ _
            have hs1 : ¬ i = 0 → partT H (xsl ++ [(nm ++ ⟨#[58, 32]⟩) ++ Y]) = (M ++ ⟨#[44, 32]⟩) ++ ((nm ++ ⟨#[58, 32]⟩) ++ Y) := fun h => by
              rw [hM]; exact partT_next _ _ _ (fun e => h (by rw [e] at hlen; simpa using hlen.symm))
            rw [← hM]
            have g1 : ¬9223372036854775807 < nm.size + 2 := by omega
            have g2 : ¬9223372036854775807 < nm.size + 2 + Y.size := by omega
            have g3 : ¬9223372036854775807 < M.size + 2 := by omega
            have g4 : ¬9223372036854775807 < M.size + 2 + (nm.size + 2 + Y.size) := by omega
            replace hf := Lib.hid hf; replace hcx := Lib.hid hcx; replace hik := Lib.hid hik; replace hp := Lib.hid hp; replace hs0 := Lib.hid hs0; replace hs1 := Lib.hid hs1
            have hall := Lib.hid (show ∀ (W w1 : World), Hp w [] [.box q #[.int .u64 id, .bool true, .slice la ln lc, .string typ, .int .u64 fr, .int .u64 dst, .slice (some ⟨b, o, none⟩) np pc] 48] W → W.cell? ⟨b, o + i * 4, none⟩ = some (.string nm) → W.cell? ⟨b, o + i * 4 + 1, none⟩ = some (.int .i64 xk) → W.cell? ⟨b, o + i * 4 + 2, none⟩ = some (.int .i64 xn) → W.cell? ⟨b, o + i * 4 + 3, none⟩ = some (.string xs) → Below W.heap.size W w1 → (Hp w [] [.box q #[.int .u64 id, .bool true, .slice la ln lc, .string typ, .int .u64 fr, .int .u64 dst, .slice (some ⟨b, o, none⟩) np pc] 48] w1 ∧ w1.cell? ⟨q, 6, none⟩ = some (.slice (some ⟨b, o, none⟩) np pc) ∧ w1.cell? ⟨b, o + i * 4, none⟩ = some (.string nm) ∧ w1.cell? ⟨b, o + i * 4 + 1, none⟩ = some (.int .i64 xk) ∧ w1.cell? ⟨b, o + i * 4 + 2, none⟩ = some (.int .i64 xn) ∧ w1.cell? ⟨b, o + i * 4 + 3, none⟩ = some (.string xs)) from fun W w1 h k0 k1 k2 k3 hb => by have hl9 := Nat.lt_of_lt_of_le hbl h.size; exact ⟨h.below hb, ((h.below hb).cell (i := 0) rfl 6).trans rfl, (hb.cell hl9).trans k0, (hb.cell hl9).trans k1, (hb.cell hl9).trans k2, (hb.cell hl9).trans k3⟩)
            clear hy hr hM hY hys hte hxs hpsz hlen hlt
            by_cases hi0 : i = 0
            · have hs := Lib.hid (hs0.out hi0)
              have hi2 : ((i : Int) == 0) = true := by rw [hi0]; rfl
              clear hs0 hs1 hi0
              go_upto_region 14 with fail
              go_region_held3 (fun W' => Hp w [] [.box q #[.int .u64 id, .bool true, .slice la ln lc, .string typ, .int .u64 fr, .int .u64 dst, .slice (some ⟨b, o, none⟩) np pc] 48] W' ∧ W'.cell? ⟨q, 6, none⟩ = some (.slice (some ⟨b, o, none⟩) np pc) ∧ W'.cell? ⟨b, o + i * 4, none⟩ = some (.string nm) ∧ W'.cell? ⟨b, o + i * 4 + 1, none⟩ = some (.int .i64 xk) ∧ W'.cell? ⟨b, o + i * 4 + 2, none⟩ = some (.int .i64 xn) ∧ W'.cell? ⟨b, o + i * 4 + 3, none⟩ = some (.string xs))
                (first
                  | exact ⟨hp.out.drew, c6, d0, d1, d2, d3⟩
                  | (go_split_ands; exact ⟨by assumption, by assumption, by assumption, by assumption, by assumption, by assumption⟩)
                  | (go_split_ands; exact hall.out _ _ (by assumption) (by assumption) (by assumption) (by assumption) (by assumption) (by assumption)))
                (first | (go_at_call 15; (with_reducible refine (hcx.out _ (by go_split_ands; exact Hp.bel (by assumption))).mono ?_); rintro e' w1 ⟨rfl, hb⟩))
              obtain ⟨hp9, -, -, -, -, -⟩ := ‹Hp _ _ _ _ ∧ _›
              replace hp9 := Lib.hid hp9
              all_goals go_wp2
              all_goals
                go_roundg K
                case measure => omega
                case rel => exact ⟨i + 1, by go_num, by have := hik.out; omega, by rw [hf.out, hs.out], hp9.out⟩
            · have hs := Lib.hid (hs1.out hi0)
              have hi2 : ((i : Int) == 0) = false := by rw [beq_eq_false_iff_ne]; omega
              clear hs0 hs1 hi0
              go_upto_region 14 with fail
              go_region_held3 (fun W' => Hp w [] [.box q #[.int .u64 id, .bool true, .slice la ln lc, .string typ, .int .u64 fr, .int .u64 dst, .slice (some ⟨b, o, none⟩) np pc] 48] W' ∧ W'.cell? ⟨q, 6, none⟩ = some (.slice (some ⟨b, o, none⟩) np pc) ∧ W'.cell? ⟨b, o + i * 4, none⟩ = some (.string nm) ∧ W'.cell? ⟨b, o + i * 4 + 1, none⟩ = some (.int .i64 xk) ∧ W'.cell? ⟨b, o + i * 4 + 2, none⟩ = some (.int .i64 xn) ∧ W'.cell? ⟨b, o + i * 4 + 3, none⟩ = some (.string xs))
                (first
                  | exact ⟨hp.out.drew, c6, d0, d1, d2, d3⟩
                  | (go_split_ands; exact ⟨by assumption, by assumption, by assumption, by assumption, by assumption, by assumption⟩)
                  | (go_split_ands; exact hall.out _ _ (by assumption) (by assumption) (by assumption) (by assumption) (by assumption) (by assumption)))
                (first | (go_at_call 15; (with_reducible refine (hcx.out _ (by go_split_ands; exact Hp.bel (by assumption))).mono ?_); rintro e' w1 ⟨rfl, hb⟩))
              obtain ⟨hp9, -, -, -, -, -⟩ := ‹Hp _ _ _ _ ∧ _›
              replace hp9 := Lib.hid hp9
              all_goals go_wp2
              all_goals
                go_roundg K
                case measure => omega
                case rel => exact ⟨i + 1, by go_num, by have := hik.out; omega, by rw [hf.out, hs.out], hp9.out⟩
          · have hk0 : gk = 0 := by omega
            subst hk0
            obtain rfl : np = i := by omega
            rw [List.take_of_length_le (by rw [← hnp.out]; exact Nat.le_refl _)]
            have hpT : partT H (props.map P4.text) = if np = 0 then H else (H ++ ⟨#[32, 123]⟩) ++ J := by
              unfold partT
              by_cases h0 : np = 0
              · rw [if_pos (by have := hnp.out; rw [List.eq_nil_of_length_eq_zero (by omega : props.length = 0)]; rfl), if_pos h0]
              · rw [if_neg (fun e => h0 (by have h1 := congrArg List.length e; rw [List.length_map] at h1; have h2 := hnp.out; have h3 : ([] : List ByteArray).length = 0 := rfl; omega)), if_neg h0, hJ.out]
            rw [hpT]
            clear hpT hlt hik
            replace hp := Lib.hid hp
            by_cases hz : np = 0
            · have hx := hT0.out hz
              subst hz
              simp only [if_pos]
              go_wp2
              go_ret
              exact ⟨by first | rfl | (rw [hx]; rfl), hp.out.bel⟩
            · have hx := hT1.out hz
              rw [if_neg hz]
              have hz2 : (0 : Int) < (np : Int) := by omega
              have j1 := hhs.out
              have j2 := hps.out
              have g1 : ¬9223372036854775807 < H.size + 2 + J.size + 1 := by omega
              replace hx := Lib.hid hx
              go_wp2
              go_ret
              exact ⟨by rw [hx.out]; rfl, hp.out.bel⟩
      · go_upto_region 9 with fail
        clear hT2
        go_loopg [3, 5] np (fun kk s3 s5 wr => ∃ i : Nat, s5 = .int .i64 (i : Int) ∧ i + kk = np ∧ s3 = .string (partT H ((props.take i).map P4.text)) ∧ Hp w [] [.box q #[.int .u64 id, .bool true, .slice la ln lc, .string typ, .int .u64 fr, .int .u64 dst, .slice pa np pc] 48] wr)
        case atStart => exact ⟨0, rfl, by omega, rfl, hp.out⟩
        case round =>
          clear hp
          obtain ⟨i, rfl, hik, rfl, hp⟩ := hrel
          have c6 := hp.cell (i := 0) rfl 6
          simp at c6
          by_cases hlt : i < np
          · obtain ⟨K, rfl⟩ : ∃ K : Nat, gk = K + 1 := ⟨gk - 1, by omega⟩
            obtain ⟨b, o, rfl, hr⟩ := hP.out.resolve_left (by omega)
            obtain ⟨y, hy⟩ : ∃ y, props[i]? = some y := ⟨_, List.getElem?_eq_getElem (by have := hnp.out; omega)⟩
            have hf : (props.take (i + 1)).map P4.text = (props.take i).map P4.text ++ [y.text] := by rw [List.take_add_one, hy]; simp
            have hcx := kv.out y (List.mem_of_getElem? hy)
            have hys := hpz2.out y (List.mem_of_getElem? hy)
            have hsz := show.text_size _ hys.2
            have hnz := hys.1
            have hpsz := props_size (props.take i) (by rw [List.length_take]; omega) (fun z hz => hpz2.out z (List.mem_of_mem_take hz))
            have hlen : ((props.take i).map P4.text).length = i := by rw [List.length_map, List.length_take]; have := hnp.out; omega
            have d0 : wr.cell? ⟨b, o + i * 4, none⟩ = some (.string y.name) := (hp.bel.cell hr.1).trans (hr.elem0 P4.cells_len hy rfl)
            have d1 : wr.cell? ⟨b, o + i * 4 + 1, none⟩ = some (.int .i64 y.val.k) := (hp.bel.cell hr.1).trans (hr.elem P4.cells_len hy rfl)
            have d2 : wr.cell? ⟨b, o + i * 4 + 2, none⟩ = some (.int .i64 y.val.n) := (hp.bel.cell hr.1).trans (hr.elem P4.cells_len hy rfl)
            have d3 : wr.cell? ⟨b, o + i * 4 + 3, none⟩ = some (.string y.val.s) := (hp.bel.cell hr.1).trans (hr.elem P4.cells_len hy rfl)
            have hbl : b < w.heap.size := hr.1
            have e1 : (0 : Int) ≤ (i : Int) := by omega
            have e2 : (i : Int) < (np : Int) := by omega
            obtain ⟨nm, xk, xn, xs⟩ := y
            have hte : P4.text ⟨nm, xk, xn, xs⟩ = (nm ++ ⟨#[58, 32]⟩) ++ V3.text ⟨xk, xn, xs⟩ := rfl
            rw [hte] at hf
            obtain ⟨Y, hY⟩ : ∃ Y, Y = V3.text ⟨xk, xn, xs⟩ := ⟨_, rfl⟩
            simp only at hcx d0 d1 d2 d3 hnz hsz
            rw [← hY] at hcx hf hsz
            obtain ⟨xsl, hxs⟩ : ∃ l, l = (props.take i).map P4.text := ⟨_, rfl⟩
            rw [← hxs] at hf hpsz hlen ⊢
            rw [hxs] at hpsz
            rw [← hxs] at hpsz
            obtain ⟨M, hM⟩ : ∃ M, M = partT H xsl := ⟨_, rfl⟩
            have hMz : M.size ≤ 1300 := by
              rw [hM]; unfold partT
              have e5 : (⟨#[32, 123]⟩ : ByteArray).size = 2 := rfl
              have := hhs.out
              split
              · omega
              · rw [ByteArray.size_append, ByteArray.size_append]; omega
            have hs0 : i = 0 → partT H (xsl ++ [(nm ++ ⟨#[58, 32]⟩) ++ Y]) = (M ++ ⟨#[32, 123]⟩) ++ ((nm ++ ⟨#[58, 32]⟩) ++ Y) := fun h => by
              have h0 : xsl = [] := List.eq_nil_of_length_eq_zero (by omega)
              have h1 : M = H := by rw [hM, h0]; rfl
              rw [h1, h0]; exact partT_first _ _
            have hs1 : ¬ i = 0 → partT H (xsl ++ [(nm ++ ⟨#[58, 32]⟩) ++ Y]) = (M ++ ⟨#[44, 32]⟩) ++ ((nm ++ ⟨#[58, 32]⟩) ++ Y) := fun h => by
              rw [hM]; exact partT_next _ _ _ (fun e => h (by rw [e] at hlen; simpa using hlen.symm))
            rw [← hM]
            have g1 : ¬9223372036854775807 < nm.size + 2 := by omega
            have g2 : ¬9223372036854775807 < nm.size + 2 + Y.size := by omega
            have g3 : ¬9223372036854775807 < M.size + 2 := by omega
            have g4 : ¬9223372036854775807 < M.size + 2 + (nm.size + 2 + Y.size) := by omega
            replace hf := Lib.hid hf; replace hcx := Lib.hid hcx; replace hik := Lib.hid hik; replace hp := Lib.hid hp; replace hs0 := Lib.hid hs0; replace hs1 := Lib.hid hs1
            have hall := Lib.hid (show ∀ (W w1 : World), Hp w [] [.box q #[.int .u64 id, .bool true, .slice la ln lc, .string typ, .int .u64 fr, .int .u64 dst, .slice (some ⟨b, o, none⟩) np pc] 48] W → W.cell? ⟨b, o + i * 4, none⟩ = some (.string nm) → W.cell? ⟨b, o + i * 4 + 1, none⟩ = some (.int .i64 xk) → W.cell? ⟨b, o + i * 4 + 2, none⟩ = some (.int .i64 xn) → W.cell? ⟨b, o + i * 4 + 3, none⟩ = some (.string xs) → Below W.heap.size W w1 → (Hp w [] [.box q #[.int .u64 id, .bool true, .slice la ln lc, .string typ, .int .u64 fr, .int .u64 dst, .slice (some ⟨b, o, none⟩) np pc] 48] w1 ∧ w1.cell? ⟨q, 6, none⟩ = some (.slice (some ⟨b, o, none⟩) np pc) ∧ w1.cell? ⟨b, o + i * 4, none⟩ = some (.string nm) ∧ w1.cell? ⟨b, o + i * 4 + 1, none⟩ = some (.int .i64 xk) ∧ w1.cell? ⟨b, o + i * 4 + 2, none⟩ = some (.int .i64 xn) ∧ w1.cell? ⟨b, o + i * 4 + 3, none⟩ = some (.string xs)) from fun W w1 h k0 k1 k2 k3 hb => by have hl9 := Nat.lt_of_lt_of_le hbl h.size; exact ⟨h.below hb, ((h.below hb).cell (i := 0) rfl 6).trans rfl, (hb.cell hl9).trans k0, (hb.cell hl9).trans k1, (hb.cell hl9).trans k2, (hb.cell hl9).trans k3⟩)
            clear hy hr hM hY hys hte hxs hpsz hlen hlt
            by_cases hi0 : i = 0
            · have hs := Lib.hid (hs0.out hi0)
              have hi2 : ((i : Int) == 0) = true := by rw [hi0]; rfl
              clear hs0 hs1 hi0
              go_upto_region 14 with fail
              go_region_held3 (fun W' => Hp w [] [.box q #[.int .u64 id, .bool true, .slice la ln lc, .string typ, .int .u64 fr, .int .u64 dst, .slice (some ⟨b, o, none⟩) np pc] 48] W' ∧ W'.cell? ⟨q, 6, none⟩ = some (.slice (some ⟨b, o, none⟩) np pc) ∧ W'.cell? ⟨b, o + i * 4, none⟩ = some (.string nm) ∧ W'.cell? ⟨b, o + i * 4 + 1, none⟩ = some (.int .i64 xk) ∧ W'.cell? ⟨b, o + i * 4 + 2, none⟩ = some (.int .i64 xn) ∧ W'.cell? ⟨b, o + i * 4 + 3, none⟩ = some (.string xs))
                (first
                  | exact ⟨hp.out.drew, c6, d0, d1, d2, d3⟩
                  | (go_split_ands; exact ⟨by assumption, by assumption, by assumption, by assumption, by assumption, by assumption⟩)
                  | (go_split_ands; exact hall.out _ _ (by assumption) (by assumption) (by assumption) (by assumption) (by assumption) (by assumption)))
                (first | (go_at_call 15; (with_reducible refine (hcx.out _ (by go_split_ands; exact Hp.bel (by assumption))).mono ?_); rintro e' w1 ⟨rfl, hb⟩))
              obtain ⟨hp9, -, -, -, -, -⟩ := ‹Hp _ _ _ _ ∧ _›
              replace hp9 := Lib.hid hp9
              all_goals go_wp2
              all_goals
                go_roundg K
                case measure => omega
                case rel => exact ⟨i + 1, by go_num, by have := hik.out; omega, by rw [hf.out, hs.out], hp9.out⟩
            · have hs := Lib.hid (hs1.out hi0)
              have hi2 : ((i : Int) == 0) = false := by rw [beq_eq_false_iff_ne]; omega
              clear hs0 hs1 hi0
              go_upto_region 14 with fail
              go_region_held3 (fun W' => Hp w [] [.box q #[.int .u64 id, .bool true, .slice la ln lc, .string typ, .int .u64 fr, .int .u64 dst, .slice (some ⟨b, o, none⟩) np pc] 48] W' ∧ W'.cell? ⟨q, 6, none⟩ = some (.slice (some ⟨b, o, none⟩) np pc) ∧ W'.cell? ⟨b, o + i * 4, none⟩ = some (.string nm) ∧ W'.cell? ⟨b, o + i * 4 + 1, none⟩ = some (.int .i64 xk) ∧ W'.cell? ⟨b, o + i * 4 + 2, none⟩ = some (.int .i64 xn) ∧ W'.cell? ⟨b, o + i * 4 + 3, none⟩ = some (.string xs))
                (first
                  | exact ⟨hp.out.drew, c6, d0, d1, d2, d3⟩
                  | (go_split_ands; exact ⟨by assumption, by assumption, by assumption, by assumption, by assumption, by assumption⟩)
                  | (go_split_ands; exact hall.out _ _ (by assumption) (by assumption) (by assumption) (by assumption) (by assumption) (by assumption)))
                (first | (go_at_call 15; (with_reducible refine (hcx.out _ (by go_split_ands; exact Hp.bel (by assumption))).mono ?_); rintro e' w1 ⟨rfl, hb⟩))
              obtain ⟨hp9, -, -, -, -, -⟩ := ‹Hp _ _ _ _ ∧ _›
              replace hp9 := Lib.hid hp9
              all_goals go_wp2
              all_goals
                go_roundg K
                case measure => omega
                case rel => exact ⟨i + 1, by go_num, by have := hik.out; omega, by rw [hf.out, hs.out], hp9.out⟩
          · have hk0 : gk = 0 := by omega
            subst hk0
            obtain rfl : np = i := by omega
            rw [List.take_of_length_le (by rw [← hnp.out]; exact Nat.le_refl _)]
            have hpT : partT H (props.map P4.text) = if np = 0 then H else (H ++ ⟨#[32, 123]⟩) ++ J := by
              unfold partT
              by_cases h0 : np = 0
              · rw [if_pos (by have := hnp.out; rw [List.eq_nil_of_length_eq_zero (by omega : props.length = 0)]; rfl), if_pos h0]
              · rw [if_neg (fun e => h0 (by have h1 := congrArg List.length e; rw [List.length_map] at h1; have h2 := hnp.out; have h3 : ([] : List ByteArray).length = 0 := rfl; omega)), if_neg h0, hJ.out]
            rw [hpT]
            clear hpT hlt hik
            replace hp := Lib.hid hp
            by_cases hz : np = 0
            · have hx := hT0.out hz
              subst hz
              simp only [if_pos]
              go_wp2
              go_ret
              exact ⟨by first | rfl | (rw [hx]; rfl), hp.out.bel⟩
            · have hx := hT1.out hz
              rw [if_neg hz]
              have hz2 : (0 : Int) < (np : Int) := by omega
              have j1 := hhs.out
              have j2 := hps.out
              have g1 : ¬9223372036854775807 < H.size + 2 + J.size + 1 := by omega
              replace hx := Lib.hid hx
              go_wp2
              go_ret
              exact ⟨by rw [hx.out]; rfl, hp.out.bel⟩
  | false =>
    have hH1 := hH.out
    rw [if_neg (by decide)] at hH1
    obtain ⟨H0, hH0⟩ : ∃ H0, H0 = (⟨#[110, 111, 100, 101, 32]⟩ : ByteArray) ++ A := ⟨_, rfl⟩
    rw [← hH0] at hH1
    have hz0 : H0.size ≤ 30 := by rw [hH0, ByteArray.size_append]; have e5 : (⟨#[110, 111, 100, 101, 32]⟩ : ByteArray).size = 5 := rfl; omega
    replace hH1 := Lib.hid hH1; replace hH0 := Lib.hid hH0
    go_upto_region 4 with (go_at_call 11; (with_reducible refine (k1.out _ hp0.out.bel).mono ?_); rintro e w1 ⟨rfl, b1⟩; replace hp0 := Lib.hid (hp0.out.below b1); have c1 := hp0.out.cell (i := 0) rfl 1; simp at c1)
    rw [← hH0.out]
    clear k1 k2 k3 c0 c1 c2 c3 c4 c5 c6
    have hT2 : True := trivial
    go_upto_region 5 with fail
    go_loopg [3, 4] ln (fun kk s3 s4 wr => ∃ i : Nat, s4 = .int .i64 (i : Int) ∧ i + kk = ln ∧ s3 = .string (labT H0 (labels.take i)) ∧ Hp w [] [.box q #[.int .u64 id, .bool false, .slice la ln lc, .string typ, .int .u64 fr, .int .u64 dst, .slice pa np pc] 48] wr)
    case atStart => exact ⟨0, rfl, by omega, rfl, hp0.out⟩
    case round =>
      clear hp0
      obtain ⟨i, rfl, hi, rfl, hp⟩ := hrel
      have c1 := hp.cell (i := 0) rfl 1
      have c2 := hp.cell (i := 0) rfl 2
      simp at c1 c2
      by_cases hlt : i < ln
      · obtain ⟨K, rfl⟩ : ∃ K : Nat, gk = K + 1 := ⟨gk - 1, by omega⟩
        obtain ⟨b, o, rfl, hr⟩ := hl.out.resolve_left (by omega)
        obtain ⟨y, hy⟩ : ∃ y, labels[i]? = some y := ⟨_, List.getElem?_eq_getElem (by have := hln.out; omega)⟩
        have hf := labT_take H0 labels i y hy
        have hys := hlz2.out y (List.mem_of_getElem? hy)
        have hls := labT_size (labels.take i) (fun z hz => hlz2.out z (List.mem_of_mem_take hz)) H0
        have hlt2 : (labels.take i).length ≤ 4 := by rw [List.length_take]; omega
        have d0 : wr.cell? ⟨b, o + i, none⟩ = some (.string y) := (hp.bel.cell hr.1).trans (hr.2 i _ (by simp [hy]))
        have e1 : (0 : Int) ≤ (i : Int) := by omega
        have e2 : (i : Int) < (ln : Int) := by omega
        obtain ⟨M, hM⟩ : ∃ M, M = labT H0 (labels.take i) := ⟨_, rfl⟩
        rw [← hM] at hf hls ⊢
        have hMz : M.size ≤ 100 := by omega
        replace hf := Lib.hid hf; replace hi := Lib.hid hi; replace hp := Lib.hid hp
        clear hy hr hM hls hlt2
        go_wp2
        go_roundg K
        case measure => omega
        case rel => exact ⟨i + 1, by go_num, by have := hi.out; omega, by rw [hf.out], hp.out⟩
      · have hk0 : gk = 0 := by omega
        subst hk0
        obtain rfl : ln = i := by omega
        have e2 : ¬ (ln : Int) < (ln : Int) := by omega
        rw [List.take_of_length_le (by rw [← hln.out]; exact Nat.le_refl _), ← hH1.out]
        replace hp := Lib.hid hp
        clear hi hlt
        go_upto_region 9 with fail
        clear hT2
        go_loopg [3, 5] np (fun kk s3 s5 wr => ∃ i : Nat, s5 = .int .i64 (i : Int) ∧ i + kk = np ∧ s3 = .string (partT H ((props.take i).map P4.text)) ∧ Hp w [] [.box q #[.int .u64 id, .bool false, .slice la ln lc, .string typ, .int .u64 fr, .int .u64 dst, .slice pa np pc] 48] wr)
        case atStart => exact ⟨0, rfl, by omega, rfl, hp.out⟩
        case round =>
          clear hp
          obtain ⟨i, rfl, hik, rfl, hp⟩ := hrel
          have c6 := hp.cell (i := 0) rfl 6
          simp at c6
          by_cases hlt : i < np
          · obtain ⟨K, rfl⟩ : ∃ K : Nat, gk = K + 1 := ⟨gk - 1, by omega⟩
            obtain ⟨b, o, rfl, hr⟩ := hP.out.resolve_left (by omega)
            obtain ⟨y, hy⟩ : ∃ y, props[i]? = some y := ⟨_, List.getElem?_eq_getElem (by have := hnp.out; omega)⟩
            have hf : (props.take (i + 1)).map P4.text = (props.take i).map P4.text ++ [y.text] := by rw [List.take_add_one, hy]; simp
            have hcx := kv.out y (List.mem_of_getElem? hy)
            have hys := hpz2.out y (List.mem_of_getElem? hy)
            have hsz := show.text_size _ hys.2
            have hnz := hys.1
            have hpsz := props_size (props.take i) (by rw [List.length_take]; omega) (fun z hz => hpz2.out z (List.mem_of_mem_take hz))
            have hlen : ((props.take i).map P4.text).length = i := by rw [List.length_map, List.length_take]; have := hnp.out; omega
            have d0 : wr.cell? ⟨b, o + i * 4, none⟩ = some (.string y.name) := (hp.bel.cell hr.1).trans (hr.elem0 P4.cells_len hy rfl)
            have d1 : wr.cell? ⟨b, o + i * 4 + 1, none⟩ = some (.int .i64 y.val.k) := (hp.bel.cell hr.1).trans (hr.elem P4.cells_len hy rfl)
            have d2 : wr.cell? ⟨b, o + i * 4 + 2, none⟩ = some (.int .i64 y.val.n) := (hp.bel.cell hr.1).trans (hr.elem P4.cells_len hy rfl)
            have d3 : wr.cell? ⟨b, o + i * 4 + 3, none⟩ = some (.string y.val.s) := (hp.bel.cell hr.1).trans (hr.elem P4.cells_len hy rfl)
            have hbl : b < w.heap.size := hr.1
            have e1 : (0 : Int) ≤ (i : Int) := by omega
            have e2 : (i : Int) < (np : Int) := by omega
            obtain ⟨nm, xk, xn, xs⟩ := y
            have hte : P4.text ⟨nm, xk, xn, xs⟩ = (nm ++ ⟨#[58, 32]⟩) ++ V3.text ⟨xk, xn, xs⟩ := rfl
            rw [hte] at hf
            obtain ⟨Y, hY⟩ : ∃ Y, Y = V3.text ⟨xk, xn, xs⟩ := ⟨_, rfl⟩
            simp only at hcx d0 d1 d2 d3 hnz hsz
            rw [← hY] at hcx hf hsz
            obtain ⟨xsl, hxs⟩ : ∃ l, l = (props.take i).map P4.text := ⟨_, rfl⟩
            rw [← hxs] at hf hpsz hlen ⊢
            rw [hxs] at hpsz
            rw [← hxs] at hpsz
            obtain ⟨M, hM⟩ : ∃ M, M = partT H xsl := ⟨_, rfl⟩
            have hMz : M.size ≤ 1300 := by
              rw [hM]; unfold partT
              have e5 : (⟨#[32, 123]⟩ : ByteArray).size = 2 := rfl
              have := hhs.out
              split
              · omega
              · rw [ByteArray.size_append, ByteArray.size_append]; omega
            have hs0 : i = 0 → partT H (xsl ++ [(nm ++ ⟨#[58, 32]⟩) ++ Y]) = (M ++ ⟨#[32, 123]⟩) ++ ((nm ++ ⟨#[58, 32]⟩) ++ Y) := fun h => by
              have h0 : xsl = [] := List.eq_nil_of_length_eq_zero (by omega)
              have h1 : M = H := by rw [hM, h0]; rfl
              rw [h1, h0]; exact partT_first _ _
            have hs1 : ¬ i = 0 → partT H (xsl ++ [(nm ++ ⟨#[58, 32]⟩) ++ Y]) = (M ++ ⟨#[44, 32]⟩) ++ ((nm ++ ⟨#[58, 32]⟩) ++ Y) := fun h => by
              rw [hM]; exact partT_next _ _ _ (fun e => h (by rw [e] at hlen; simpa using hlen.symm))
            rw [← hM]
            have g1 : ¬9223372036854775807 < nm.size + 2 := by omega
            have g2 : ¬9223372036854775807 < nm.size + 2 + Y.size := by omega
            have g3 : ¬9223372036854775807 < M.size + 2 := by omega
            have g4 : ¬9223372036854775807 < M.size + 2 + (nm.size + 2 + Y.size) := by omega
            replace hf := Lib.hid hf; replace hcx := Lib.hid hcx; replace hik := Lib.hid hik; replace hp := Lib.hid hp; replace hs0 := Lib.hid hs0; replace hs1 := Lib.hid hs1
            have hall := Lib.hid (show ∀ (W w1 : World), Hp w [] [.box q #[.int .u64 id, .bool false, .slice la ln lc, .string typ, .int .u64 fr, .int .u64 dst, .slice (some ⟨b, o, none⟩) np pc] 48] W → W.cell? ⟨b, o + i * 4, none⟩ = some (.string nm) → W.cell? ⟨b, o + i * 4 + 1, none⟩ = some (.int .i64 xk) → W.cell? ⟨b, o + i * 4 + 2, none⟩ = some (.int .i64 xn) → W.cell? ⟨b, o + i * 4 + 3, none⟩ = some (.string xs) → Below W.heap.size W w1 → (Hp w [] [.box q #[.int .u64 id, .bool false, .slice la ln lc, .string typ, .int .u64 fr, .int .u64 dst, .slice (some ⟨b, o, none⟩) np pc] 48] w1 ∧ w1.cell? ⟨q, 6, none⟩ = some (.slice (some ⟨b, o, none⟩) np pc) ∧ w1.cell? ⟨b, o + i * 4, none⟩ = some (.string nm) ∧ w1.cell? ⟨b, o + i * 4 + 1, none⟩ = some (.int .i64 xk) ∧ w1.cell? ⟨b, o + i * 4 + 2, none⟩ = some (.int .i64 xn) ∧ w1.cell? ⟨b, o + i * 4 + 3, none⟩ = some (.string xs)) from fun W w1 h k0 k1 k2 k3 hb => by have hl9 := Nat.lt_of_lt_of_le hbl h.size; exact ⟨h.below hb, ((h.below hb).cell (i := 0) rfl 6).trans rfl, (hb.cell hl9).trans k0, (hb.cell hl9).trans k1, (hb.cell hl9).trans k2, (hb.cell hl9).trans k3⟩)
            clear hy hr hM hY hys hte hxs hpsz hlen hlt
            by_cases hi0 : i = 0
            · have hs := Lib.hid (hs0.out hi0)
              have hi2 : ((i : Int) == 0) = true := by rw [hi0]; rfl
              clear hs0 hs1 hi0
              go_upto_region 14 with fail
              go_region_held3 (fun W' => Hp w [] [.box q #[.int .u64 id, .bool false, .slice la ln lc, .string typ, .int .u64 fr, .int .u64 dst, .slice (some ⟨b, o, none⟩) np pc] 48] W' ∧ W'.cell? ⟨q, 6, none⟩ = some (.slice (some ⟨b, o, none⟩) np pc) ∧ W'.cell? ⟨b, o + i * 4, none⟩ = some (.string nm) ∧ W'.cell? ⟨b, o + i * 4 + 1, none⟩ = some (.int .i64 xk) ∧ W'.cell? ⟨b, o + i * 4 + 2, none⟩ = some (.int .i64 xn) ∧ W'.cell? ⟨b, o + i * 4 + 3, none⟩ = some (.string xs))
                (first
                  | exact ⟨hp.out.drew, c6, d0, d1, d2, d3⟩
                  | (go_split_ands; exact ⟨by assumption, by assumption, by assumption, by assumption, by assumption, by assumption⟩)
                  | (go_split_ands; exact hall.out _ _ (by assumption) (by assumption) (by assumption) (by assumption) (by assumption) (by assumption)))
                (first | (go_at_call 15; (with_reducible refine (hcx.out _ (by go_split_ands; exact Hp.bel (by assumption))).mono ?_); rintro e' w1 ⟨rfl, hb⟩))
              obtain ⟨hp9, -, -, -, -, -⟩ := ‹Hp _ _ _ _ ∧ _›
              replace hp9 := Lib.hid hp9
              all_goals go_wp2
              all_goals
                go_roundg K
                case measure => omega
                case rel => exact ⟨i + 1, by go_num, by have := hik.out; omega, by rw [hf.out, hs.out], hp9.out⟩
            · have hs := Lib.hid (hs1.out hi0)
              have hi2 : ((i : Int) == 0) = false := by rw [beq_eq_false_iff_ne]; omega
              clear hs0 hs1 hi0
              go_upto_region 14 with fail
              go_region_held3 (fun W' => Hp w [] [.box q #[.int .u64 id, .bool false, .slice la ln lc, .string typ, .int .u64 fr, .int .u64 dst, .slice (some ⟨b, o, none⟩) np pc] 48] W' ∧ W'.cell? ⟨q, 6, none⟩ = some (.slice (some ⟨b, o, none⟩) np pc) ∧ W'.cell? ⟨b, o + i * 4, none⟩ = some (.string nm) ∧ W'.cell? ⟨b, o + i * 4 + 1, none⟩ = some (.int .i64 xk) ∧ W'.cell? ⟨b, o + i * 4 + 2, none⟩ = some (.int .i64 xn) ∧ W'.cell? ⟨b, o + i * 4 + 3, none⟩ = some (.string xs))
                (first
                  | exact ⟨hp.out.drew, c6, d0, d1, d2, d3⟩
                  | (go_split_ands; exact ⟨by assumption, by assumption, by assumption, by assumption, by assumption, by assumption⟩)
                  | (go_split_ands; exact hall.out _ _ (by assumption) (by assumption) (by assumption) (by assumption) (by assumption) (by assumption)))
                (first | (go_at_call 15; (with_reducible refine (hcx.out _ (by go_split_ands; exact Hp.bel (by assumption))).mono ?_); rintro e' w1 ⟨rfl, hb⟩))
              obtain ⟨hp9, -, -, -, -, -⟩ := ‹Hp _ _ _ _ ∧ _›
              replace hp9 := Lib.hid hp9
              all_goals go_wp2
              all_goals
                go_roundg K
                case measure => omega
                case rel => exact ⟨i + 1, by go_num, by have := hik.out; omega, by rw [hf.out, hs.out], hp9.out⟩
          · have hk0 : gk = 0 := by omega
            subst hk0
            obtain rfl : np = i := by omega
            rw [List.take_of_length_le (by rw [← hnp.out]; exact Nat.le_refl _)]
            have hpT : partT H (props.map P4.text) = if np = 0 then H else (H ++ ⟨#[32, 123]⟩) ++ J := by
              unfold partT
              by_cases h0 : np = 0
              · rw [if_pos (by have := hnp.out; rw [List.eq_nil_of_length_eq_zero (by omega : props.length = 0)]; rfl), if_pos h0]
              · rw [if_neg (fun e => h0 (by have h1 := congrArg List.length e; rw [List.length_map] at h1; have h2 := hnp.out; have h3 : ([] : List ByteArray).length = 0 := rfl; omega)), if_neg h0, hJ.out]
            rw [hpT]
            clear hpT hlt hik
            replace hp := Lib.hid hp
            by_cases hz : np = 0
            · have hx := hT0.out hz
              subst hz
              simp only [if_pos]
              go_wp2
              go_ret
              exact ⟨by first | rfl | (rw [hx]; rfl), hp.out.bel⟩
            · have hx := hT1.out hz
              rw [if_neg hz]
              have hz2 : (0 : Int) < (np : Int) := by omega
              have j1 := hhs.out
              have j2 := hps.out
              have g1 : ¬9223372036854775807 < H.size + 2 + J.size + 1 := by omega
              replace hx := Lib.hid hx
              go_wp2
              go_ret
              exact ⟨by rw [hx.out]; rfl, hp.out.bel⟩
end Go.Proofs.YtgbkpkioijbgoaaDoor.show
