/- The law ShowReplies over a reply as lists: what show says is what the statement says. The table of powers of ten is a premise. -/
import Derived.Test.YtgbkpkioijbgoaaDoorShowU
import Derived.Deep.CutBlock
import Derived.Deep.CutRange
namespace Go.Proofs.YtgbkpkioijbgoaaDoor.show
open Go.RowKit
attribute [local go_sem ↓] Go.wp_at_zero Go.wp_at_succ
set_option linter.unusedVariables false
set_option linter.unusedSimpArgs false
set_option maxRecDepth 100000

set_option maxHeartbeats 16000000 in
theorem showReplies_core (er id tell : Int) (done : Bool) (ids0 : List Int) (ins0 : List InV) (rows0 : List RwV) (ia : Option Addr) (ic : Nat) (na : Option Addr) (nc : Nat) (ra : Option Addr) (rc : Nat) (w : World) (hT : Tab w) (hid : 0 ≤ id ∧ id < 18446744073709551616) (h2 : ∀ x ∈ ids0, 0 ≤ x ∧ x < 18446744073709551616)
    (hin : ∀ y ∈ ins0, y.raw w) (hrw : ∀ y ∈ rows0, y.raw w)
    (hI : Sl w (.slice ia ids0.length ic) ids0.length (ids0.map (Value.int .u64))) (hN : Sl w (.slice na ins0.length nc) ins0.length (ins0.flatMap InV.cells)) (hR : Sl w (.slice ra rows0.length rc) rows0.length (rows0.flatMap RwV.cells)) :
    Calls Tryd.prog 5 #[.agg #[.int .i64 er, .int .u64 id, .slice ia ids0.length ic, .slice na ins0.length nc, .slice ra rows0.length rc], .int .i64 tell, .bool done] w fun e w' => e = .returned (.bool true) ∧ Below w.heap.size w w' := by
  have hEr : bits .and .i64 er 7 = er % 8 := and_7 er
  obtain ⟨Er, hE⟩ : ∃ x, x = er % 8 := ⟨_, rfl⟩
  have hE8 : 0 ≤ Er ∧ Er < 8 := by omega
  rw [← hE] at hEr
  clear hE
  obtain ⟨Zs, hZl, hZs⟩ := near_list w ins0 hin
  obtain ⟨Rs0, hRl, hRs⟩ := near_rows rows0 (fun y hy => (hrw y hy).wf)
  have hrat : ∀ y ∈ rows0, Sl w (.slice y.a y.l.length y.c) y.l.length (y.l.flatMap V3.cells) := fun y hy => (hrw y hy).at_
  obtain ⟨ids, hids⟩ : ∃ l, l = ids0.take 5 := ⟨_, rfl⟩
  have hil : ids.length = min ids0.length 5 := by rw [hids, List.length_take]; omega
  have hii : ∀ (i : Nat) (y : Int), ids0[i]? = some y → i < 5 → ids[i]? = some y := fun i y hy hi => by rw [hids, List.getElem?_take, if_pos hi, hy]
  have hi2 : ∀ x ∈ ids, 0 ≤ x ∧ x < 18446744073709551616 := fun x hx => h2 x (by rw [hids] at hx; exact List.mem_of_mem_take hx)
  have hZn : ∀ z ∈ Zs, z.near := fun z hz => by
    obtain ⟨i, hi⟩ := List.getElem?_of_mem hz
    obtain ⟨y, _, h, _⟩ := hZs i z hi
    exact h
  have hRn : ∀ r ∈ Rs0, r.length ≤ 3 ∧ ∀ v ∈ r, v.near := fun r hr => by
    obtain ⟨i, hi⟩ := List.getElem?_of_mem hr
    obtain ⟨y, _, h, h3⟩ := hRs i r hi
    refine ⟨by omega, fun v hv => ?_⟩
    obtain ⟨k, hk⟩ := List.getElem?_of_mem hv
    obtain ⟨u, _, h4, _⟩ := h3 k v hk
    exact h4
  have kF : ∀ y : Int, 0 ≤ y ∧ y < 18446744073709551616 → ∀ W, Below w.heap.size w W → Calls Tryd.prog 11 #[.int .u64 y, .int .i64 10] W fun e w' => e = .returned (.string (numT y)) ∧ Below W.heap.size W w' := fun y hy W hb => by
    obtain ⟨u, rfl⟩ : ∃ u : Nat, y = (u : Int) := ⟨y.toNat, by omega⟩
    exact fmt_any u (by omega) W (hT.keep hb)
  have kD := kF id hid
  have z1 := numT_lenU id hid
  obtain ⟨T0, hT0⟩ : ∃ T, T = h0T id := ⟨_, rfl⟩
  have hT0z : T0.size ≤ 24 := by rw [hT0]; exact h0T_size id hid
  have hT00 : id = 0 → T0 = ⟨#[111, 107]⟩ := fun h => by rw [hT0, h]; exact h0T_zero
  obtain ⟨A, hA⟩ : ∃ A, A = numT id := ⟨_, rfl⟩
  have hT01 : id ≠ 0 → T0 = (⟨#[111, 107]⟩ : ByteArray) ++ ((⟨#[32]⟩ : ByteArray) ++ A) := fun h => by rw [hT0, hA]; exact h0T_id id h
  rw [← hA] at kD z1
  obtain ⟨n0, hn0⟩ : ∃ n, n = ids0.length := ⟨_, rfl⟩
  obtain ⟨nn0, hnn0⟩ : ∃ n, n = ins0.length := ⟨_, rfl⟩
  obtain ⟨nr0, hnr0⟩ : ∃ n, n = rows0.length := ⟨_, rfl⟩
  rw [← hn0] at hI hil ⊢
  rw [← hnn0] at hN hZl ⊢
  rw [← hnr0] at hR hRl ⊢
  obtain ⟨ni, hni⟩ : ∃ n, n = ids.length := ⟨_, rfl⟩
  obtain ⟨nn, hnn⟩ : ∃ n, n = Zs.length := ⟨_, rfl⟩
  obtain ⟨nr, hnr⟩ : ∃ n, n = Rs0.length := ⟨_, rfl⟩
  rw [← hni] at hil
  rw [← hnn] at hZl
  rw [← hnr] at hRl
  replace hI := Lib.hid (slAt hI); replace hN := Lib.hid (slAt hN); replace hR := Lib.hid (slAt hR)
  have hp0 := (Hp.none_ w []).alloc #[.int .i64 er, .int .u64 id, .slice ia n0 ic, .slice na nn0 nc, .slice ra nr0 rc] 43
  have kA : ∀ W, Below w.heap.size w W → Calls Tryd.prog 17 #[] W fun e w' => e = .returned (.bool true) ∧ Below W.heap.size W w' := fun W hb => awake_any W (hT.keep hb)
  have kE : ∀ W, Below w.heap.size w W → Calls Tryd.prog 16 #[.int .i64 Er] W fun e w' => e = .returned (.string (errT Er)) ∧ Below W.heap.size W w' := fun W hb => ref_any Er (by omega) W (hT.keep hb)
  have kV : ∀ v : V3, v.near → ∀ W, Below w.heap.size w W → Calls Tryd.prog 15 #[.agg #[.int .i64 v.k, .int .i64 v.n, .string v.s]] W fun e w' => e = .returned (.string v.text) ∧ Below W.heap.size W w' := fun v hv W hb => lval_any v.k v.n v.s hv W (hT.keep hb)
  have kI : ∀ z : In, z.near → ∀ W la lc pa pc, Below w.heap.size w W → Sl W (.slice la z.labels.length lc) z.labels.length (z.labels.map Value.string) → Sl W (.slice pa z.props.length pc) z.props.length (z.props.flatMap P4.cells) → Calls Tryd.prog 13 #[.agg #[.int .u64 z.id, .bool z.edge, .slice la z.labels.length lc, .string z.typ, .int .u64 z.fr, .int .u64 z.dst, .slice pa z.props.length pc]] W fun e w' => e = .returned (.string z.text) ∧ Below W.heap.size W w' := fun z hz W la lc pa pc hb h1 h2 => linfo_any z la lc pa pc W (hT.keep hb) hz h1 h2
  clear hin hrw h2 hids
  replace hp0 := Lib.hid hp0; replace kA := Lib.hid kA; replace kE := Lib.hid kE; replace kV := Lib.hid kV; replace kI := Lib.hid kI; replace kF := Lib.hid kF; replace kD := Lib.hid kD; replace hT := Lib.hid hT; replace hid := Lib.hid hid
  replace hZs := Lib.hid hZs; replace hRs := Lib.hid hRs; replace hrat := Lib.hid hrat; replace hii := Lib.hid hii; replace hi2 := Lib.hid hi2; replace hZn := Lib.hid hZn; replace hRn := Lib.hid hRn; replace hT00 := Lib.hid hT00; replace hT01 := Lib.hid hT01; replace hT0 := Lib.hid hT0; replace hA := Lib.hid hA
  replace hn0 := Lib.hid hn0; replace hnn0 := Lib.hid hnn0; replace hnr0 := Lib.hid hnr0; replace hni := Lib.hid hni; replace hnn := Lib.hid hnn; replace hnr := Lib.hid hnr; replace hil := Lib.hid hil; replace hZl := Lib.hid hZl; replace hRl := Lib.hid hRl; replace hE8 := Lib.hid hE8; replace z1 := Lib.hid z1; replace hT0z := Lib.hid hT0z
  go_enter Tryd.func5, Tryd.ntmps5
  go_upto_region 1 with fail
  generalize w.alloc _ = W at hp0 ⊢
  generalize hq2 : w.heap.size = q3 at hp0 ⊢
  clear hq2
  have c0 := hp0.out.cell (i := 0) rfl 0
  have c1 := hp0.out.cell (i := 0) rfl 1
  simp at c0 c1
  go_upto_region 3 with fail
  clear c0 c1 hEr
  have hp1 := Lib.hid (hp0.out.alloc #[.int .i64 Er, .int .u64 id, .slice none 0 0, .slice none 0 0, .slice none 0 0] 43)
  clear hp0
  generalize W.alloc _ = W1 at hp1 ⊢
  generalize W.heap.size = q7 at hp1 ⊢
  have c1 := hp1.out.cell (i := 0) rfl 1
  simp at c1
  go_upto_if 24 with fail
  go_cut [8] from 24 to 30 (fun s8 wx => s8 = .string T0 ∧ Hp w [] [.box q7 #[.int .i64 Er, .int .u64 id, .slice none 0 0, .slice none 0 0, .slice none 0 0] 43, .box q3 #[.int .i64 er, .int .u64 id, .slice ia n0 ic, .slice na nn0 nc, .slice ra nr0 rc] 43] wx)
  case first =>
    by_cases hd : id = 0
    · have hx := hT00.out hd
      have hd2 : (id != 0) = false := by rw [hd]; rfl
      replace hd := Lib.hid hd; replace hx := Lib.hid hx
      go_wp2
      go_meet
      exact ⟨by rw [hx.out], hp1.out⟩
    · have hx := hT01.out hd
      have hd2 : (id != 0) = true := by simp [hd]
      have g0 := z1.out
      have g1 : ¬9223372036854775807 < 1 + A.size := by omega
      have g2 : ¬9223372036854775807 < 2 + (1 + A.size) := by omega
      replace hd := Lib.hid hd; replace hx := Lib.hid hx
      go_wp2_with (go_at_call 11; (with_reducible refine (kD.out _ hp1.out.bel).mono ?_); rintro e w1 ⟨rfl, b1⟩; replace hp1 := Lib.hid (hp1.out.below b1); clear b1)
      go_meet
      exact ⟨by rw [hx.out], hp1.out⟩
  case rest =>
    clear c1 hp1 hT00 hT01 z1 kD
    obtain ⟨rfl, hp1⟩ := hcut
    replace hp1 := Lib.hid hp1
    go_upto_block 0 with fail
    go_cut [8, 9] from 31 to 65 (fun s8 s9 wx => ∃ (iad : Option Addr) (icp : Nat), s8 = .string (idsP T0 ids) ∧ Hp w [] [.row 38 1 (.slice iad ni icp) ni (ids.map (Value.int .u64)), .box q7 #[.int .i64 Er, .int .u64 id, .slice iad ni icp, .slice none 0 0, .slice none 0 0] 43, .box q3 #[.int .i64 er, .int .u64 id, .slice ia n0 ic, .slice na nn0 nc, .slice ra nr0 rc] 43] wx)
    case first =>
      go_wp2
      go_loopg [8, 9] ni (fun kk s8 s9 wr => ∃ (i : Nat) (ad : Option Addr) (cp : Nat), s9 = .int .i64 (i : Int) ∧ i + kk = ni ∧ s8 = .string (idsP T0 (ids.take i)) ∧ Hp w [] [.row 38 1 (.slice ad i cp) i ((ids.take i).map (Value.int .u64)), .box q7 #[.int .i64 Er, .int .u64 id, .slice ad i cp, .slice none 0 0, .slice none 0 0] 43, .box q3 #[.int .i64 er, .int .u64 id, .slice ia n0 ic, .slice na nn0 nc, .slice ra nr0 rc] 43] wr)
      case atStart => exact ⟨0, _, _, rfl, by omega, rfl, hp1.out.rowNil 38 1⟩
      case round =>
        clear hp1
        obtain ⟨i, ad, cp, rfl, hik, rfl, hp⟩ := hrel
        have hn5 : ni ≤ n0 ∧ ni ≤ 5 := by have := hil.out; omega
        by_cases hlt : i < ni
        · obtain ⟨K, rfl⟩ : ∃ K : Nat, gk = K + 1 := ⟨gk - 1, by omega⟩
          obtain ⟨b, o, rfl, hr⟩ := hI.out.resolve_left (by omega)
          obtain ⟨y, hy⟩ : ∃ y, ids0[i]? = some y := ⟨_, List.getElem?_eq_getElem (by have := hn0.out; omega)⟩
          have hY := hii.out i y hy (by omega)
          have hyr := hi2.out y (List.mem_of_getElem? hY)
          have hf0 : ids.take (i + 1) = ids.take i ++ [y] := by rw [List.take_add_one, hY]; rfl
          have hf : (ids.take (i + 1)).map (Value.int .u64) = (ids.take i).map (Value.int .u64) ++ [.int .u64 y] := by rw [hf0]; simp
          have hlen : (ids.take i).length = i := by rw [List.length_take]; have := hni.out; omega
          obtain ⟨Y, hYe⟩ : ∃ Y, Y = numT y := ⟨_, rfl⟩
          have hs0 : i = 0 → idsP T0 (ids.take (i + 1)) = (idsP T0 (ids.take i) ++ ⟨#[32, 91]⟩) ++ Y := fun h => by rw [hf0, List.eq_nil_of_length_eq_zero (by rw [hlen]; exact h : (ids.take i).length = 0), hYe]; exact idsP_first _ _
          have hs1 : ¬ i = 0 → idsP T0 (ids.take (i + 1)) = (idsP T0 (ids.take i) ++ ⟨#[32]⟩) ++ Y := fun h => by rw [hf0, hYe]; exact idsP_next _ _ _ (fun e => h (by rw [← hlen, e]; rfl))
          have hMz := idsP_size T0 (ids.take i) hT0z.out (by omega) (fun x hx => hi2.out x (List.mem_of_mem_take hx))
          have hYz := numT_lenU y hyr
          have kY := kF.out y hyr
          rw [← hYe] at hYz kY
          obtain ⟨S, hS⟩ : ∃ S, S = idsP T0 (ids.take i) := ⟨_, rfl⟩
          rw [← hS] at hs0 hs1 hMz ⊢
          have d0 : wr.drew.cell? ⟨b, o + i, none⟩ = some (.int .u64 y) := (hp.drew.bel.cell hr.1).trans (hr.2 i _ (by simp [hy]))
          have c2 := hp.drew.cell (i := 2) rfl 2
          have t2 := hp.drew.cell (i := 1) rfl 2
          simp at c2 t2
          have e0 : (i : Int) < 5 := by omega
          have e1 : (0 : Int) ≤ (i : Int) := by omega
          have e2 : (i : Int) < (n0 : Int) := by omega
          obtain ⟨M, hM⟩ : ∃ M, M = (ids.take i).map (Value.int .u64) := ⟨_, rfl⟩
          rw [← hM] at hf hp
          have b2 := hp.cell (i := 2) rfl 2
          simp at b2
          have hSk := Lib.hid (show ∀ (rs : List Rs) (j : Nat) (W' : World), Hp w [] rs W' → rs[j]? = some (.box q3 #[.int .i64 er, .int .u64 id, .slice (some ⟨b, o, none⟩) n0 ic, .slice na nn0 nc, .slice ra nr0 rc] 43) → (W'.cell? ⟨q3, 2, none⟩ = some (.slice (some ⟨b, o, none⟩) n0 ic) ∧ W'.cell? ⟨b, o + i, none⟩ = some (.int .u64 y)) from fun rs j W' h hj => ⟨(h.cell hj 2).trans rfl, (h.bel.cell hr.1).trans (hr.2 i _ (by simp [hy]))⟩)
          have t2b : (wr.alloc (.cells #[.int .u64 y] 38)).cell? ⟨q7, 2, none⟩ = some (.slice ad i cp) := ((hp.alloc_ (.cells #[.int .u64 y] 38)).cell (i := 1) rfl 2).trans rfl
          replace hf := Lib.hid hf; replace hik := Lib.hid hik; replace hs0 := Lib.hid hs0; replace hs1 := Lib.hid hs1; replace kY := Lib.hid kY; replace hn5 := Lib.hid hn5; replace hlen := Lib.hid hlen; replace hf0 := Lib.hid hf0; replace hyr := Lib.hid hyr; replace hMz := Lib.hid hMz; replace hYz := Lib.hid hYz
          have hl9 := Lib.hid (show i + 1 ≤ 100000000 by omega)
          have hon := Lib.hid (show ∀ u ∈ (#[Value.int .u64 y] : Array Value).toList, u.oneCell' = true from fun u hu => by simp at hu; rcases hu with rfl; rfl)
          replace hp := Lib.hid hp
          clear hy hM hYe hY hS d0 c2 t2 hr
          go_upto_region 8 with fail
          clear b2
          go_cut [] from 42 to 51 (fun wx => ∃ (ad : Option Addr) (cp : Nat), Hp w [] [.row 38 1 (.slice ad (i + 1) cp) (i + 1) (M ++ [.int .u64 y]), .box q7 #[.int .i64 Er, .int .u64 id, .slice ad (i + 1) cp, .slice none 0 0, .slice none 0 0] 43, .box q3 #[.int .i64 er, .int .u64 id, .slice (some ⟨b, o, none⟩) n0 ic, .slice na nn0 nc, .slice ra nr0 rc] 43] wx)
          case first =>
            replace hp := Lib.hid hp.out.drew
            have m2 := hp.out.cell (i := 1) rfl 2
            simp at m2
            refine wp_region_noPanic ?_; refine wp_region_held_drew (S := (fun W' => W'.cell? ⟨q3, 2, none⟩ = some (.slice (some ⟨b, o, none⟩) n0 ic) ∧ W'.cell? ⟨b, o + i, none⟩ = some (.int .u64 y))) (by kernel_rfl) ?_ (fun hHeld => ?_); (focus ((try dsimp only); (first | exact hSk.out _ 2 _ hp.out rfl | exact hSk.out _ 3 _ hp.out rfl); done))
            (refine take_t (i := 0) (d := 42) (oi := _) (v := ?_) rfl rfl (by kernel_rfl) (by kernel_rfl) (by kernel_rfl) (by rfl) ?_ (by assumption) ?_; rotate_left; (focus (intro w0 hSw; (try dsimp only at hSw); go_simp; (try with_reducible rfl); done)); try simp only [Act.put, List.setIfInBounds_toArray, List.set_cons_zero, List.set_cons_succ]); (refine take_t (i := 2) (d := 44) (oi := _) (v := ?_) rfl rfl (by kernel_rfl) (by kernel_rfl) (by kernel_rfl) (by rfl) ?_ (by assumption) ?_; rotate_left; (focus (intro w0 hSw; (try dsimp only at hSw); go_simp; (try with_reducible rfl); done)); try simp only [Act.put, List.setIfInBounds_toArray, List.set_cons_zero, List.set_cons_succ]); (refine take_t (i := 3) (d := 45) (oi := _) (v := ?_) rfl rfl (by kernel_rfl) (by kernel_rfl) (by kernel_rfl) (by rfl) ?_ (by assumption) ?_; rotate_left; (focus (intro w0 hSw; (try dsimp only at hSw); go_simp; (try with_reducible rfl); done)); try simp only [Act.put, List.setIfInBounds_toArray, List.set_cons_zero, List.set_cons_succ]); (refine take_t (i := 4) (d := 46) (oi := _) (v := ?_) rfl rfl (by kernel_rfl) (by kernel_rfl) (by kernel_rfl) (by rfl) ?_ (by assumption) ?_; rotate_left; (focus (intro w0 hSw; (try dsimp only at hSw); go_simp; (try with_reducible rfl); done)); try simp only [Act.put, List.setIfInBounds_toArray, List.set_cons_zero, List.set_cons_succ]); (refine take_t (i := 5) (d := 47) (oi := _) (v := ?_) rfl rfl (by kernel_rfl) (by kernel_rfl) (by kernel_rfl) (by rfl) ?_ (by assumption) ?_; rotate_left; (focus (intro w0 hSw; (try dsimp only at hSw); go_simp; (try with_reducible rfl); done)); try simp only [Act.put, List.setIfInBounds_toArray, List.set_cons_zero, List.set_cons_succ]); (refine take_t (i := 6) (d := 48) (oi := _) (v := ?_) rfl rfl (by kernel_rfl) (by kernel_rfl) (by kernel_rfl) (by rfl) ?_ (by assumption) ?_; rotate_left; (focus (intro w0 hSw; (try dsimp only at hSw); go_simp; (try with_reducible rfl); done)); try simp only [Act.put, List.setIfInBounds_toArray, List.set_cons_zero, List.set_cons_succ])
            refine wpAnyH_ready (rs := [1, 7]) (by kernel_rfl) (by simp) ?_; refine AllReadyH.cons (o := _) rfl (fun K' hK => ?_) (AllReadyH.cons (o := _) rfl (fun K' hK => ?_) AllReadyH.nil)
            · go_simp; (skip); (try dsimp only); refine hK.out _ _ ?_ (fun hHeld2 => ?_); (focus ((try dsimp only); (first | exact hSk.out _ 2 _ hp.out rfl | exact hSk.out _ 3 _ hp.out rfl); done)); clear hK K'; clear hHeld; have hHeld := hHeld2; clear hHeld2; try simp only [Act.put, List.setIfInBounds_toArray, List.set_cons_zero, List.set_cons_succ]
              (refine wpAnyH_ready (rs := [7]) (by kernel_rfl) (by simp) ?_; refine AllReadyH.cons (o := _) rfl (fun K' hK => ?_) AllReadyH.nil; go_simp; (replace hp := Lib.hid (hp.out.alloc #[.int .u64 y] 38); have m2 := hp.out.cell (i := 2) rfl 2; simp at m2); (try dsimp only); refine hK.out _ _ ?_ (fun hHeld2 => ?_); (focus ((try dsimp only); (first | exact hSk.out _ 2 _ hp.out rfl | exact hSk.out _ 3 _ hp.out rfl); done)); clear hK K'; clear hHeld; have hHeld := hHeld2; clear hHeld2; try simp only [Act.put, List.setIfInBounds_toArray, List.set_cons_zero, List.set_cons_succ]); (refine wpAnyH_ready (rs := [8]) (by kernel_rfl) (by simp) ?_; refine AllReadyH.cons (o := _) rfl (fun K' hK => ?_) AllReadyH.nil; (refine step_append_sl_hpk rfl _ _ rfl Tryd.underlying39 u64Info rfl (by decide) (by decide) hp.out 1 rfl rfl rfl (box_sl2 hp.out (i := 0) rfl) rfl hon.out hl9.out rfl rfl ?_; intro v6 w6 h6 hv6; obtain ⟨ad6, cp6, rfl⟩ := hv6; replace hp := Lib.hid h6; clear h6; have m6 := hp.out.cell (i := 2) rfl 2; have f6 := hp.out.free (i := 2) rfl 2; simp at m6); (try dsimp only); refine hK.out _ _ ?_ (fun hHeld2 => ?_); (focus ((try dsimp only); (first | exact hSk.out _ 2 _ hp.out rfl | exact hSk.out _ 3 _ hp.out rfl); done)); clear hK K'; clear hHeld; have hHeld := hHeld2; clear hHeld2; try simp only [Act.put, List.setIfInBounds_toArray, List.set_cons_zero, List.set_cons_succ]); (refine take_t (i := 9) (d := 51) (oi := _) (v := ?_) rfl rfl (by kernel_rfl) (by kernel_rfl) (by kernel_rfl) (by rfl) ?_ (by assumption) ?_; rotate_left; (focus (intro w0 hSw; (try dsimp only at hSw); go_simp; (try with_reducible rfl); done)); try simp only [Act.put, List.setIfInBounds_toArray, List.set_cons_zero, List.set_cons_succ]); (refine wpAnyH_ready (rs := [10]) (by kernel_rfl) (by simp) ?_; refine AllReadyH.cons (o := _) rfl (fun K' hK => ?_) AllReadyH.nil; go_simp; (replace hp := Lib.hid (hp.out.put (i := 2) rfl 2 (.slice ad6 (i + 1) cp6))); (try dsimp only); refine hK.out _ _ ?_ (fun hHeld2 => ?_); (focus ((try dsimp only); (first | exact hSk.out _ 2 _ hp.out rfl | exact hSk.out _ 3 _ hp.out rfl); done)); clear hK K'; clear hHeld; have hHeld := hHeld2; clear hHeld2; try simp only [Act.put, List.setIfInBounds_toArray, List.set_cons_zero, List.set_cons_succ])
              refine wpAnyH_done (by kernel_rfl) ?_ _; refine NoPanic.normal ?_
              go_wp2
              go_meet
              exact ⟨_, _, hp.out.drop 0⟩
            · go_simp; (replace hp := Lib.hid (hp.out.alloc #[.int .u64 y] 38); have m2 := hp.out.cell (i := 2) rfl 2; simp at m2); (try dsimp only); refine hK.out _ _ ?_ (fun hHeld2 => ?_); (focus ((try dsimp only); (first | exact hSk.out _ 2 _ hp.out rfl | exact hSk.out _ 3 _ hp.out rfl); done)); clear hK K'; clear hHeld; have hHeld := hHeld2; clear hHeld2; try simp only [Act.put, List.setIfInBounds_toArray, List.set_cons_zero, List.set_cons_succ]
              (refine wpAnyH_ready (rs := [1]) (by kernel_rfl) (by simp) ?_; refine AllReadyH.cons (o := _) rfl (fun K' hK => ?_) AllReadyH.nil; go_simp; (skip); (try dsimp only); refine hK.out _ _ ?_ (fun hHeld2 => ?_); (focus ((try dsimp only); (first | exact hSk.out _ 2 _ hp.out rfl | exact hSk.out _ 3 _ hp.out rfl); done)); clear hK K'; clear hHeld; have hHeld := hHeld2; clear hHeld2; try simp only [Act.put, List.setIfInBounds_toArray, List.set_cons_zero, List.set_cons_succ]); (refine wpAnyH_ready (rs := [8]) (by kernel_rfl) (by simp) ?_; refine AllReadyH.cons (o := _) rfl (fun K' hK => ?_) AllReadyH.nil; (refine step_append_sl_hpk rfl _ _ rfl Tryd.underlying39 u64Info rfl (by decide) (by decide) hp.out 1 rfl rfl rfl (box_sl2 hp.out (i := 0) rfl) rfl hon.out hl9.out rfl rfl ?_; intro v6 w6 h6 hv6; obtain ⟨ad6, cp6, rfl⟩ := hv6; replace hp := Lib.hid h6; clear h6; have m6 := hp.out.cell (i := 2) rfl 2; have f6 := hp.out.free (i := 2) rfl 2; simp at m6); (try dsimp only); refine hK.out _ _ ?_ (fun hHeld2 => ?_); (focus ((try dsimp only); (first | exact hSk.out _ 2 _ hp.out rfl | exact hSk.out _ 3 _ hp.out rfl); done)); clear hK K'; clear hHeld; have hHeld := hHeld2; clear hHeld2; try simp only [Act.put, List.setIfInBounds_toArray, List.set_cons_zero, List.set_cons_succ]); (refine take_t (i := 9) (d := 51) (oi := _) (v := ?_) rfl rfl (by kernel_rfl) (by kernel_rfl) (by kernel_rfl) (by rfl) ?_ (by assumption) ?_; rotate_left; (focus (intro w0 hSw; (try dsimp only at hSw); go_simp; (try with_reducible rfl); done)); try simp only [Act.put, List.setIfInBounds_toArray, List.set_cons_zero, List.set_cons_succ]); (refine wpAnyH_ready (rs := [10]) (by kernel_rfl) (by simp) ?_; refine AllReadyH.cons (o := _) rfl (fun K' hK => ?_) AllReadyH.nil; go_simp; (replace hp := Lib.hid (hp.out.put (i := 2) rfl 2 (.slice ad6 (i + 1) cp6))); (try dsimp only); refine hK.out _ _ ?_ (fun hHeld2 => ?_); (focus ((try dsimp only); (first | exact hSk.out _ 2 _ hp.out rfl | exact hSk.out _ 3 _ hp.out rfl); done)); clear hK K'; clear hHeld; have hHeld := hHeld2; clear hHeld2; try simp only [Act.put, List.setIfInBounds_toArray, List.set_cons_zero, List.set_cons_succ])
              refine wpAnyH_done (by kernel_rfl) ?_ _; refine NoPanic.normal ?_
              go_wp2
              go_meet
              exact ⟨_, _, hp.out.drop 0⟩
          case rest =>
            clear hp t2b hl9 hon
            obtain ⟨ad9, cp9, hp⟩ := hcut
            have d1 := (hSk.out _ 2 _ hp rfl).2
            have d2 := (hSk.out _ 2 _ hp rfl).1
            clear hSk
            replace hp := Lib.hid hp
            have hz1 := hMz.out; have hz2 := hYz.out
            have g1 : ¬9223372036854775807 < S.size + 2 := by omega
            have g2 : ¬9223372036854775807 < S.size + 1 := by omega
            have g3 : ¬9223372036854775807 < S.size + 2 + Y.size := by omega
            have g4 : ¬9223372036854775807 < S.size + 1 + Y.size := by omega
            by_cases hi0 : i = 0
            · have hs := Lib.hid (hs0.out hi0)
              have hi9 : ((i : Int) == 0) = true := by rw [hi0]; rfl
              clear hs0 hs1
              replace hi0 := Lib.hid hi0
              go_wp2_with (go_at_call 11; (with_reducible refine (kY.out _ hp.out.bel).mono ?_); rintro e w1 ⟨rfl, b1⟩; replace hp := Lib.hid (hp.out.below b1); clear b1)
              go_roundg K
              case measure => omega
              case rel => exact ⟨i + 1, _, _, by go_num, by have := hik.out; omega, by rw [hs.out], by rw [hf.out]; exact hp.out⟩
            · have hs := Lib.hid (hs1.out hi0)
              have hi9 : ((i : Int) == 0) = false := by rw [beq_eq_false_iff_ne]; omega
              clear hs0 hs1
              replace hi0 := Lib.hid hi0
              go_wp2_with (go_at_call 11; (with_reducible refine (kY.out _ hp.out.bel).mono ?_); rintro e w1 ⟨rfl, b1⟩; replace hp := Lib.hid (hp.out.below b1); clear b1)
              go_roundg K
              case measure => omega
              case rel => exact ⟨i + 1, _, _, by go_num, by have := hik.out; omega, by rw [hs.out], by rw [hf.out]; exact hp.out⟩
        · have hk0 : gk = 0 := by omega
          subst hk0
          obtain rfl : ni = i := by omega
          have ht : ids.take ni = ids := List.take_of_length_le (by rw [← hni.out]; exact Nat.le_refl _)
          rw [ht] at hp ⊢
          have c2 := hp.cell (i := 2) rfl 2
          simp at c2
          replace hp := Lib.hid hp
          by_cases hx : n0 ≤ 5
          · have e1 : ¬ (ni : Int) < (n0 : Int) := by have := hil.out; omega
            clear hik hlt hn5 hx ht
            go_wp2
            go_meet
            exact ⟨_, _, rfl, hp.out⟩
          · have e1 : (ni : Int) < (n0 : Int) := by have := hil.out; omega
            have e2 : ¬ (ni : Int) < 5 := by have := hil.out; omega
            clear hik hlt hn5 hx ht
            go_wp2
            go_meet
            exact ⟨_, _, rfl, hp.out⟩
    case rest =>
      clear hp1 hI hii kF hn0
      obtain ⟨iad, icp, rfl, hp⟩ := hcut
      replace hp := Lib.hid hp
      obtain ⟨S1, hS1⟩ : ∃ S, S = joinS (headW id ids) ⟨#[32]⟩ := ⟨_, rfl⟩
      have hS10 : ni = 0 → idsP T0 ids = S1 := fun h => by have e : ids = [] := List.eq_nil_of_length_eq_zero (by rw [← hni.out]; exact h); rw [hS1, hT0.out, e]; exact idsP_none id
      have hS11 : ¬ ni = 0 → idsP T0 ids ++ ⟨#[93]⟩ = S1 := fun h => by rw [hS1, hT0.out]; exact idsP_end id ids (fun e => h (by rw [hni.out, e]; rfl))
      have hzi := idsP_size T0 ids hT0z.out (by have := hil.out; have := hni.out; omega) hi2.out
      obtain ⟨SI, hSI⟩ : ∃ S, S = idsP T0 ids := ⟨_, rfl⟩
      rw [← hSI] at hS10 hS11 hzi ⊢
      have hS1b : S1 = repT id ids [] [] := by rw [hS1]; exact (rep_start id ids).symm
      clear hSI hS1 hT0 hT0z
      replace hS10 := Lib.hid hS10; replace hS11 := Lib.hid hS11; replace hzi := Lib.hid hzi; replace hS1b := Lib.hid hS1b
      have c2 := hp.out.cell (i := 1) rfl 2
      simp at c2
      go_upto_if 69 with fail
      go_cut [8] from 69 to 71 (fun s8 wx => s8 = .string S1 ∧ Hp w [] [.row 38 1 (.slice iad ni icp) ni (ids.map (Value.int .u64)), .box q7 #[.int .i64 Er, .int .u64 id, .slice iad ni icp, .slice none 0 0, .slice none 0 0] 43, .box q3 #[.int .i64 er, .int .u64 id, .slice ia n0 ic, .slice na nn0 nc, .slice ra nr0 rc] 43] wx)
      case first =>
        have g0 := hzi.out
        have g1 : ¬9223372036854775807 < SI.size + 1 := by omega
        by_cases hz : ni = 0
        · have hs := Lib.hid (hS10.out hz)
          have hz2 : ¬ (0 : Int) < (ni : Int) := by omega
          clear hS10 hS11
          replace hz := Lib.hid hz
          go_wp2
          go_meet
          exact ⟨by rw [hs.out], hp.out⟩
        · have hs := Lib.hid (hS11.out hz)
          have hz2 : (0 : Int) < (ni : Int) := by omega
          clear hS10 hS11
          replace hz := Lib.hid hz
          go_wp2
          go_meet
          exact ⟨by rw [hs.out], hp.out⟩
      case rest =>
        clear hp c2 hS10 hS11 hzi
        obtain ⟨rfl, hp⟩ := hcut
        replace hp := Lib.hid (hp.rowNil 48 7)
        have hszN : ∀ i, (repT id ids (Zs.take i) []).size ≤ 60000 := fun i => (repW_size id ids (Zs.take i) [] hid.out (by have := hil.out; have := hni.out; omega) hi2.out (by rw [List.length_take]; have := hZl.out; have := hnn.out; omega) (fun z hz => hZn.out z (List.mem_of_mem_take hz)) (by simp) (by simp)).1
        replace hszN := Lib.hid hszN
        go_upto_block 2 with fail
        go_cut [8, 10] from 72 to 103 (fun s8 s10 wx => ∃ (nad : Option Addr) (ncp : Nat) (Y : List InV) (nrs : List Rs), s8 = .string (repT id ids Zs []) ∧ Y.map InV.x = Zs ∧ (∀ y ∈ Y, inAt nrs y) ∧ Hp w [] (.row 48 7 (.slice nad nn ncp) nn (Y.flatMap InV.cells) :: .row 38 1 (.slice iad ni icp) ni (ids.map (Value.int .u64)) :: .box q7 #[.int .i64 Er, .int .u64 id, .slice iad ni icp, .slice nad nn ncp, .slice none 0 0] 43 :: .box q3 #[.int .i64 er, .int .u64 id, .slice ia n0 ic, .slice na nn0 nc, .slice ra nr0 rc] 43 :: nrs) wx)
        case first =>
          go_wp2
          go_loopg [8, 10] nn (fun kk s8 s10 wr => ∃ (i : Nat) (ad : Option Addr) (cp : Nat) (Y : List InV) (nrs : List Rs), s10 = .int .i64 (i : Int) ∧ i + kk = nn ∧ s8 = .string (repT id ids (Zs.take i) []) ∧ Y.map InV.x = Zs.take i ∧ (∀ y ∈ Y, inAt nrs y) ∧ Hp w [] (.row 48 7 (.slice ad i cp) i (Y.flatMap InV.cells) :: .row 38 1 (.slice iad ni icp) ni (ids.map (Value.int .u64)) :: .box q7 #[.int .i64 Er, .int .u64 id, .slice iad ni icp, .slice ad i cp, .slice none 0 0] 43 :: .box q3 #[.int .i64 er, .int .u64 id, .slice ia n0 ic, .slice na nn0 nc, .slice ra nr0 rc] 43 :: nrs) wr)
          case atStart => exact ⟨0, _, _, [], [], rfl, by omega, by rw [hS1b.out]; rfl, rfl, by simp, hp.out⟩
          case round =>
            clear hp hS1b
            obtain ⟨i, ad, cp, Y, nrs, rfl, hik, rfl, hYx, hYn, hp⟩ := hrel
            have hn5 : nn ≤ nn0 ∧ nn ≤ 3 := by have := hZl.out; omega
            by_cases hlt : i < nn
            · obtain ⟨K, rfl⟩ : ∃ K : Nat, gk = K + 1 := ⟨gk - 1, by omega⟩
              obtain ⟨b, o, rfl, hr⟩ := hN.out.resolve_left (by omega)
              obtain ⟨z, hz⟩ : ∃ z, Zs[i]? = some z := ⟨_, List.getElem?_eq_getElem (by have := hnn.out; omega)⟩
              obtain ⟨y, hy, hzn, hnc⟩ := hZs.out i z hz
              have hf0 : Zs.take (i + 1) = Zs.take i ++ [z] := by rw [List.take_add_one, hz]; rfl
              have hs : repT id ids (Zs.take (i + 1)) [] = repT id ids (Zs.take i) [] ++ ((⟨#[32]⟩ : ByteArray) ++ z.text) := by rw [hf0]; exact rep_info _ _ _ _
              have hMz := hszN.out i
              have hzz := z.text_size hzn
              have kz := kI.out z hzn
              obtain ⟨S, hS⟩ : ∃ S, S = repT id ids (Zs.take i) [] := ⟨_, rfl⟩
              rw [← hS] at hs hMz ⊢
              obtain ⟨Z, hZ⟩ : ∃ S, S = z.text := ⟨_, rfl⟩
              rw [← hZ] at hs hzz kz
              have e0 : (i : Int) < 3 := by omega
              have e1 : (0 : Int) ≤ (i : Int) := by omega
              have e2 : (i : Int) < (nn0 : Int) := by omega
              have b2 := hp.cell (i := 3) rfl 3
              simp at b2
              have hSk := show ∀ (rs : List Rs) (j : Nat) (W' : World), Hp w [] rs W' → rs[j]? = some (.box q3 #[.int .i64 er, .int .u64 id, .slice ia n0 ic, .slice (some ⟨b, o, none⟩) nn0 nc, .slice ra nr0 rc] 43) → (W'.cell? ⟨q3, 3, none⟩ = some (.slice (some ⟨b, o, none⟩) nn0 nc) ∧ W'.cell? ⟨b, o + i * 7, none⟩ = some (.int .u64 y.x.id) ∧ W'.cell? ⟨b, o + i * 7 + 1, none⟩ = some (.bool y.x.edge) ∧ W'.cell? ⟨b, o + i * 7 + 2, none⟩ = some (.slice y.la y.x.labels.length y.lc) ∧ W'.cell? ⟨b, o + i * 7 + 3, none⟩ = some (.string y.x.typ) ∧ W'.cell? ⟨b, o + i * 7 + 4, none⟩ = some (.int .u64 y.x.fr) ∧ W'.cell? ⟨b, o + i * 7 + 5, none⟩ = some (.int .u64 y.x.dst) ∧ W'.cell? ⟨b, o + i * 7 + 6, none⟩ = some (.slice y.pa y.x.props.length y.pc)) from fun rs j W' h hj => ⟨(h.cell hj 3).trans rfl, (h.bel.cell hr.1).trans (hr.elem0 InV.cells_len hy rfl), (h.bel.cell hr.1).trans (hr.elem InV.cells_len hy rfl), (h.bel.cell hr.1).trans (hr.elem InV.cells_len hy rfl), (h.bel.cell hr.1).trans (hr.elem InV.cells_len hy rfl), (h.bel.cell hr.1).trans (hr.elem InV.cells_len hy rfl), (h.bel.cell hr.1).trans (hr.elem InV.cells_len hy rfl), (h.bel.cell hr.1).trans (hr.elem InV.cells_len hy rfl)⟩
              obtain ⟨⟨yi, ye, yls, yt, yf, yd, yps⟩, yla, yc, ypa, ypc⟩ := y
              simp only at hSk hnc
              obtain ⟨yl, hyl⟩ : ∃ k, k = yls.length := ⟨_, rfl⟩
              obtain ⟨yp, hyp⟩ : ∃ k, k = yps.length := ⟨_, rfl⟩
              rw [← hyl, ← hyp] at hSk hnc
              obtain ⟨M, hM⟩ : ∃ M, M = Y.flatMap InV.cells := ⟨_, rfl⟩
              rw [← hM] at hp
              have hzl := hzn.labels.1; have hzp := hzn.props.1
              replace hik := Lib.hid hik; replace hs := Lib.hid hs; replace kz := Lib.hid kz; replace hn5 := Lib.hid hn5; replace hf0 := Lib.hid hf0; replace hMz := Lib.hid hMz; replace hzz := Lib.hid hzz; replace hSk := Lib.hid hSk; replace hnc := Lib.hid hnc; replace hYx := Lib.hid hYx; replace hYn := Lib.hid hYn; replace hzn := Lib.hid hzn; replace hM := Lib.hid hM; replace hzl := Lib.hid hzl; replace hzp := Lib.hid hzp
              have hl9 := Lib.hid (show i + 1 ≤ 100000000 by omega)
              have hon := Lib.hid (show ∀ (zla zpa : Option Addr) (zlc zpc : Nat), ∀ u ∈ (#[.int .u64 z.id, .bool z.edge, .slice zla z.labels.length zlc, .string z.typ, .int .u64 z.fr, .int .u64 z.dst, .slice zpa z.props.length zpc] : Array Value).toList, u.oneCell' = true from fun zla zpa zlc zpc u hu => by simp at hu; rcases hu with rfl | rfl | rfl | rfl | rfl | rfl | rfl <;> rfl)
              replace hp := Lib.hid hp
              clear hz hy hr hS hZ hyl hyp hlt
              go_upto_region 18 with fail
              clear b2
              go_cut [] from 83 to 93 (fun wx => ∃ (ad : Option Addr) (cp : Nat) (zla : Option Addr) (zlc : Nat) (zpa : Option Addr) (zpc : Nat), Hp w [] (.row 48 7 (.slice ad (i + 1) cp) (i + 1) (M ++ [.int .u64 z.id, .bool z.edge, .slice zla z.labels.length zlc, .string z.typ, .int .u64 z.fr, .int .u64 z.dst, .slice zpa z.props.length zpc]) :: .row 38 1 (.slice iad ni icp) ni (ids.map (Value.int .u64)) :: .box q7 #[.int .i64 Er, .int .u64 id, .slice iad ni icp, .slice ad (i + 1) cp, .slice none 0 0] 43 :: .box q3 #[.int .i64 er, .int .u64 id, .slice ia n0 ic, .slice (some ⟨b, o, none⟩) nn0 nc, .slice ra nr0 rc] 43 :: .row 9 1 (.slice zla z.labels.length zlc) z.labels.length (z.labels.map Value.string) :: .row 98 4 (.slice zpa z.props.length zpc) z.props.length (z.props.flatMap P4.cells) :: nrs) wx)
              case first =>
                replace hp := Lib.hid hp.out.drew
                have m2 := hp.out.cell (i := 2) rfl 3
                simp at m2
                refine wp_region_noPanic ?_; refine wp_region_held_drew (S := (fun W' => W'.cell? ⟨q3, 3, none⟩ = some (.slice (some ⟨b, o, none⟩) nn0 nc) ∧ W'.cell? ⟨b, o + i * 7, none⟩ = some (.int .u64 yi) ∧ W'.cell? ⟨b, o + i * 7 + 1, none⟩ = some (.bool ye) ∧ W'.cell? ⟨b, o + i * 7 + 2, none⟩ = some (.slice yla yl yc) ∧ W'.cell? ⟨b, o + i * 7 + 3, none⟩ = some (.string yt) ∧ W'.cell? ⟨b, o + i * 7 + 4, none⟩ = some (.int .u64 yf) ∧ W'.cell? ⟨b, o + i * 7 + 5, none⟩ = some (.int .u64 yd) ∧ W'.cell? ⟨b, o + i * 7 + 6, none⟩ = some (.slice ypa yp ypc))) (by kernel_rfl) ?_ (fun hHeld => ?_); (focus ((try dsimp only); (first | exact hSk.out _ 3 _ hp.out rfl | exact hSk.out _ 5 _ hp.out rfl | exact hSk.out _ 6 _ hp.out rfl); done))
                (refine take_t (i := 0) (d := 83) (oi := _) (v := ?_) rfl rfl (by kernel_rfl) (by kernel_rfl) (by kernel_rfl) (by rfl) ?_ (by assumption) ?_; rotate_left; (focus (intro w0 hSw; (try dsimp only at hSw); go_simp; (try with_reducible rfl); done)); try simp only [Act.put, List.setIfInBounds_toArray, List.set_cons_zero, List.set_cons_succ]); (refine take_t (i := 2) (d := 85) (oi := _) (v := ?_) rfl rfl (by kernel_rfl) (by kernel_rfl) (by kernel_rfl) (by rfl) ?_ (by assumption) ?_; rotate_left; (focus (intro w0 hSw; (try dsimp only at hSw); go_simp; (try with_reducible rfl); done)); try simp only [Act.put, List.setIfInBounds_toArray, List.set_cons_zero, List.set_cons_succ]); (refine take_t (i := 3) (d := 86) (oi := _) (v := ?_) rfl rfl (by kernel_rfl) (by kernel_rfl) (by kernel_rfl) (by rfl) ?_ (by assumption) ?_; rotate_left; (focus (intro w0 hSw; (try dsimp only at hSw); go_simp; (try with_reducible rfl); done)); try simp only [Act.put, List.setIfInBounds_toArray, List.set_cons_zero, List.set_cons_succ]); (refine take_t (i := 4) (d := 87) (oi := _) (v := ?_) rfl rfl (by kernel_rfl) (by kernel_rfl) (by kernel_rfl) (by rfl) ?_ (by assumption) ?_; rotate_left; (focus (intro w0 hSw; (try dsimp only at hSw); go_simp; (try with_reducible rfl); done)); try simp only [Act.put, List.setIfInBounds_toArray, List.set_cons_zero, List.set_cons_succ]); (refine take_t (i := 5) (d := 88) (oi := _) (v := ?_) rfl rfl (by kernel_rfl) (by kernel_rfl) (by kernel_rfl) (by rfl) ?_ (by assumption) ?_; rotate_left; (focus (intro w0 hSw; (try dsimp only at hSw); go_simp; (try with_reducible rfl); done)); try simp only [Act.put, List.setIfInBounds_toArray, List.set_cons_zero, List.set_cons_succ]); (refine take_t (i := 6) (d := 89) (oi := _) (v := ?_) rfl rfl (by kernel_rfl) (by kernel_rfl) (by kernel_rfl) (by rfl) ?_ (by assumption) ?_; rotate_left; (focus (intro w0 hSw; (try dsimp only at hSw); go_simp; (try with_reducible rfl); done)); try simp only [Act.put, List.setIfInBounds_toArray, List.set_cons_zero, List.set_cons_succ])
                refine wpAnyH_ready (rs := [1, 7]) (by kernel_rfl) (by simp) ?_; refine AllReadyH.cons (o := _) rfl (fun K' hK => ?_) (AllReadyH.cons (o := _) rfl (fun K' hK => ?_) AllReadyH.nil)
                · go_simp; (skip); (try dsimp only); refine hK.out _ _ ?_ (fun hHeld2 => ?_); (focus ((try dsimp only); (first | exact hSk.out _ 3 _ hp.out rfl | exact hSk.out _ 5 _ hp.out rfl | exact hSk.out _ 6 _ hp.out rfl); done)); clear hK K'; clear hHeld; have hHeld := hHeld2; clear hHeld2; try simp only [Act.put, List.setIfInBounds_toArray, List.set_cons_zero, List.set_cons_succ]
                  (refine wpAnyH_ready (rs := [7]) (by kernel_rfl) (by simp) ?_; refine AllReadyH.cons (o := _) rfl (fun K' hK => ?_) AllReadyH.nil; go_simp; (go_at_call 12; (with_reducible refine (hnc.out _ hp.out.bel).mono ?_); rintro e w5 ⟨zla, zlc, zpa, zpc, rfl, h5⟩; replace hp := Lib.hid (show Hp w [] (_ :: _ :: _) w5 from hp.out.take h5); clear h5; have m2 := hp.out.cell (i := 4) rfl 3; simp at m2); (try dsimp only); refine hK.out _ _ ?_ (fun hHeld2 => ?_); (focus ((try dsimp only); (first | exact hSk.out _ 3 _ hp.out rfl | exact hSk.out _ 5 _ hp.out rfl | exact hSk.out _ 6 _ hp.out rfl); done)); clear hK K'; clear hHeld; have hHeld := hHeld2; clear hHeld2; try simp only [Act.put, List.setIfInBounds_toArray, List.set_cons_zero, List.set_cons_succ]); (refine wpAnyH_ready (rs := [8]) (by kernel_rfl) (by simp) ?_; refine AllReadyH.cons (o := _) rfl (fun K' hK => ?_) AllReadyH.nil; go_simp; (replace hp := Lib.hid (hp.out.alloc #[.int .u64 z.id, .bool z.edge, .slice zla z.labels.length zlc, .string z.typ, .int .u64 z.fr, .int .u64 z.dst, .slice zpa z.props.length zpc] 48); have m2 := hp.out.cell (i := 5) rfl 3; simp at m2); (try dsimp only); refine hK.out _ _ ?_ (fun hHeld2 => ?_); (focus ((try dsimp only); (first | exact hSk.out _ 3 _ hp.out rfl | exact hSk.out _ 5 _ hp.out rfl | exact hSk.out _ 6 _ hp.out rfl); done)); clear hK K'; clear hHeld; have hHeld := hHeld2; clear hHeld2; try simp only [Act.put, List.setIfInBounds_toArray, List.set_cons_zero, List.set_cons_succ]); (refine wpAnyH_ready (rs := [9]) (by kernel_rfl) (by simp) ?_; refine AllReadyH.cons (o := _) rfl (fun K' hK => ?_) AllReadyH.nil; (refine step_append_sl_hpk rfl _ _ rfl Tryd.underlying40 infInfo rfl (by decide) (by decide) hp.out 3 rfl rfl rfl (box_sl2 hp.out (i := 0) rfl) rfl (hon.out _ _ _ _) hl9.out rfl rfl ?_; intro v6 w6 h6 hv6; obtain ⟨ad6, cp6, rfl⟩ := hv6; replace hp := Lib.hid h6; clear h6; have m6 := hp.out.cell (i := 5) rfl 3; have f6 := hp.out.free (i := 5) rfl 3; simp at m6); (try dsimp only); refine hK.out _ _ ?_ (fun hHeld2 => ?_); (focus ((try dsimp only); (first | exact hSk.out _ 3 _ hp.out rfl | exact hSk.out _ 5 _ hp.out rfl | exact hSk.out _ 6 _ hp.out rfl); done)); clear hK K'; clear hHeld; have hHeld := hHeld2; clear hHeld2; try simp only [Act.put, List.setIfInBounds_toArray, List.set_cons_zero, List.set_cons_succ]); (refine take_t (i := 10) (d := 93) (oi := _) (v := ?_) rfl rfl (by kernel_rfl) (by kernel_rfl) (by kernel_rfl) (by rfl) ?_ (by assumption) ?_; rotate_left; (focus (intro w0 hSw; (try dsimp only at hSw); go_simp; (try with_reducible rfl); done)); try simp only [Act.put, List.setIfInBounds_toArray, List.set_cons_zero, List.set_cons_succ]); (refine wpAnyH_ready (rs := [11]) (by kernel_rfl) (by simp) ?_; refine AllReadyH.cons (o := _) rfl (fun K' hK => ?_) AllReadyH.nil; go_simp; (replace hp := Lib.hid (hp.out.put (i := 5) rfl 3 (.slice ad6 (i + 1) cp6))); (try dsimp only); refine hK.out _ _ ?_ (fun hHeld2 => ?_); (focus ((try dsimp only); (first | exact hSk.out _ 3 _ hp.out rfl | exact hSk.out _ 5 _ hp.out rfl | exact hSk.out _ 6 _ hp.out rfl); done)); clear hK K'; clear hHeld; have hHeld := hHeld2; clear hHeld2; try simp only [Act.put, List.setIfInBounds_toArray, List.set_cons_zero, List.set_cons_succ])
                  refine wpAnyH_done (by kernel_rfl) ?_ _; refine NoPanic.normal ?_
                  go_wp2
                  go_meet
                  exact ⟨_, _, _, _, _, _, turn24 (hp.out.drop 0)⟩
                · go_simp; (go_at_call 12; (with_reducible refine (hnc.out _ hp.out.bel).mono ?_); rintro e w5 ⟨zla, zlc, zpa, zpc, rfl, h5⟩; replace hp := Lib.hid (show Hp w [] (_ :: _ :: _) w5 from hp.out.take h5); clear h5; have m2 := hp.out.cell (i := 4) rfl 3; simp at m2); (try dsimp only); refine hK.out _ _ ?_ (fun hHeld2 => ?_); (focus ((try dsimp only); (first | exact hSk.out _ 3 _ hp.out rfl | exact hSk.out _ 5 _ hp.out rfl | exact hSk.out _ 6 _ hp.out rfl); done)); clear hK K'; clear hHeld; have hHeld := hHeld2; clear hHeld2; try simp only [Act.put, List.setIfInBounds_toArray, List.set_cons_zero, List.set_cons_succ]
                  refine wpAnyH_ready (rs := [1, 8]) (by kernel_rfl) (by simp) ?_; refine AllReadyH.cons (o := _) rfl (fun K' hK => ?_) (AllReadyH.cons (o := _) rfl (fun K' hK => ?_) AllReadyH.nil)
                  · go_simp; (skip); (try dsimp only); refine hK.out _ _ ?_ (fun hHeld2 => ?_); (focus ((try dsimp only); (first | exact hSk.out _ 3 _ hp.out rfl | exact hSk.out _ 5 _ hp.out rfl | exact hSk.out _ 6 _ hp.out rfl); done)); clear hK K'; clear hHeld; have hHeld := hHeld2; clear hHeld2; try simp only [Act.put, List.setIfInBounds_toArray, List.set_cons_zero, List.set_cons_succ]
                    (refine wpAnyH_ready (rs := [8]) (by kernel_rfl) (by simp) ?_; refine AllReadyH.cons (o := _) rfl (fun K' hK => ?_) AllReadyH.nil; go_simp; (replace hp := Lib.hid (hp.out.alloc #[.int .u64 z.id, .bool z.edge, .slice zla z.labels.length zlc, .string z.typ, .int .u64 z.fr, .int .u64 z.dst, .slice zpa z.props.length zpc] 48); have m2 := hp.out.cell (i := 5) rfl 3; simp at m2); (try dsimp only); refine hK.out _ _ ?_ (fun hHeld2 => ?_); (focus ((try dsimp only); (first | exact hSk.out _ 3 _ hp.out rfl | exact hSk.out _ 5 _ hp.out rfl | exact hSk.out _ 6 _ hp.out rfl); done)); clear hK K'; clear hHeld; have hHeld := hHeld2; clear hHeld2; try simp only [Act.put, List.setIfInBounds_toArray, List.set_cons_zero, List.set_cons_succ]); (refine wpAnyH_ready (rs := [9]) (by kernel_rfl) (by simp) ?_; refine AllReadyH.cons (o := _) rfl (fun K' hK => ?_) AllReadyH.nil; (refine step_append_sl_hpk rfl _ _ rfl Tryd.underlying40 infInfo rfl (by decide) (by decide) hp.out 3 rfl rfl rfl (box_sl2 hp.out (i := 0) rfl) rfl (hon.out _ _ _ _) hl9.out rfl rfl ?_; intro v6 w6 h6 hv6; obtain ⟨ad6, cp6, rfl⟩ := hv6; replace hp := Lib.hid h6; clear h6; have m6 := hp.out.cell (i := 5) rfl 3; have f6 := hp.out.free (i := 5) rfl 3; simp at m6); (try dsimp only); refine hK.out _ _ ?_ (fun hHeld2 => ?_); (focus ((try dsimp only); (first | exact hSk.out _ 3 _ hp.out rfl | exact hSk.out _ 5 _ hp.out rfl | exact hSk.out _ 6 _ hp.out rfl); done)); clear hK K'; clear hHeld; have hHeld := hHeld2; clear hHeld2; try simp only [Act.put, List.setIfInBounds_toArray, List.set_cons_zero, List.set_cons_succ]); (refine take_t (i := 10) (d := 93) (oi := _) (v := ?_) rfl rfl (by kernel_rfl) (by kernel_rfl) (by kernel_rfl) (by rfl) ?_ (by assumption) ?_; rotate_left; (focus (intro w0 hSw; (try dsimp only at hSw); go_simp; (try with_reducible rfl); done)); try simp only [Act.put, List.setIfInBounds_toArray, List.set_cons_zero, List.set_cons_succ]); (refine wpAnyH_ready (rs := [11]) (by kernel_rfl) (by simp) ?_; refine AllReadyH.cons (o := _) rfl (fun K' hK => ?_) AllReadyH.nil; go_simp; (replace hp := Lib.hid (hp.out.put (i := 5) rfl 3 (.slice ad6 (i + 1) cp6))); (try dsimp only); refine hK.out _ _ ?_ (fun hHeld2 => ?_); (focus ((try dsimp only); (first | exact hSk.out _ 3 _ hp.out rfl | exact hSk.out _ 5 _ hp.out rfl | exact hSk.out _ 6 _ hp.out rfl); done)); clear hK K'; clear hHeld; have hHeld := hHeld2; clear hHeld2; try simp only [Act.put, List.setIfInBounds_toArray, List.set_cons_zero, List.set_cons_succ])
                    refine wpAnyH_done (by kernel_rfl) ?_ _; refine NoPanic.normal ?_
                    go_wp2
                    go_meet
                    exact ⟨_, _, _, _, _, _, turn24 (hp.out.drop 0)⟩
                  · go_simp; (replace hp := Lib.hid (hp.out.alloc #[.int .u64 z.id, .bool z.edge, .slice zla z.labels.length zlc, .string z.typ, .int .u64 z.fr, .int .u64 z.dst, .slice zpa z.props.length zpc] 48); have m2 := hp.out.cell (i := 5) rfl 3; simp at m2); (try dsimp only); refine hK.out _ _ ?_ (fun hHeld2 => ?_); (focus ((try dsimp only); (first | exact hSk.out _ 3 _ hp.out rfl | exact hSk.out _ 5 _ hp.out rfl | exact hSk.out _ 6 _ hp.out rfl); done)); clear hK K'; clear hHeld; have hHeld := hHeld2; clear hHeld2; try simp only [Act.put, List.setIfInBounds_toArray, List.set_cons_zero, List.set_cons_succ]
                    (refine wpAnyH_ready (rs := [1]) (by kernel_rfl) (by simp) ?_; refine AllReadyH.cons (o := _) rfl (fun K' hK => ?_) AllReadyH.nil; go_simp; (skip); (try dsimp only); refine hK.out _ _ ?_ (fun hHeld2 => ?_); (focus ((try dsimp only); (first | exact hSk.out _ 3 _ hp.out rfl | exact hSk.out _ 5 _ hp.out rfl | exact hSk.out _ 6 _ hp.out rfl); done)); clear hK K'; clear hHeld; have hHeld := hHeld2; clear hHeld2; try simp only [Act.put, List.setIfInBounds_toArray, List.set_cons_zero, List.set_cons_succ]); (refine wpAnyH_ready (rs := [9]) (by kernel_rfl) (by simp) ?_; refine AllReadyH.cons (o := _) rfl (fun K' hK => ?_) AllReadyH.nil; (refine step_append_sl_hpk rfl _ _ rfl Tryd.underlying40 infInfo rfl (by decide) (by decide) hp.out 3 rfl rfl rfl (box_sl2 hp.out (i := 0) rfl) rfl (hon.out _ _ _ _) hl9.out rfl rfl ?_; intro v6 w6 h6 hv6; obtain ⟨ad6, cp6, rfl⟩ := hv6; replace hp := Lib.hid h6; clear h6; have m6 := hp.out.cell (i := 5) rfl 3; have f6 := hp.out.free (i := 5) rfl 3; simp at m6); (try dsimp only); refine hK.out _ _ ?_ (fun hHeld2 => ?_); (focus ((try dsimp only); (first | exact hSk.out _ 3 _ hp.out rfl | exact hSk.out _ 5 _ hp.out rfl | exact hSk.out _ 6 _ hp.out rfl); done)); clear hK K'; clear hHeld; have hHeld := hHeld2; clear hHeld2; try simp only [Act.put, List.setIfInBounds_toArray, List.set_cons_zero, List.set_cons_succ]); (refine take_t (i := 10) (d := 93) (oi := _) (v := ?_) rfl rfl (by kernel_rfl) (by kernel_rfl) (by kernel_rfl) (by rfl) ?_ (by assumption) ?_; rotate_left; (focus (intro w0 hSw; (try dsimp only at hSw); go_simp; (try with_reducible rfl); done)); try simp only [Act.put, List.setIfInBounds_toArray, List.set_cons_zero, List.set_cons_succ]); (refine wpAnyH_ready (rs := [11]) (by kernel_rfl) (by simp) ?_; refine AllReadyH.cons (o := _) rfl (fun K' hK => ?_) AllReadyH.nil; go_simp; (replace hp := Lib.hid (hp.out.put (i := 5) rfl 3 (.slice ad6 (i + 1) cp6))); (try dsimp only); refine hK.out _ _ ?_ (fun hHeld2 => ?_); (focus ((try dsimp only); (first | exact hSk.out _ 3 _ hp.out rfl | exact hSk.out _ 5 _ hp.out rfl | exact hSk.out _ 6 _ hp.out rfl); done)); clear hK K'; clear hHeld; have hHeld := hHeld2; clear hHeld2; try simp only [Act.put, List.setIfInBounds_toArray, List.set_cons_zero, List.set_cons_succ])
                    refine wpAnyH_done (by kernel_rfl) ?_ _; refine NoPanic.normal ?_
                    go_wp2
                    go_meet
                    exact ⟨_, _, _, _, _, _, turn24 (hp.out.drop 0)⟩
              case rest =>
                clear hp hl9 hon
                obtain ⟨ad9, cp9, zla, zlc, zpa, zpc, hp⟩ := hcut
                obtain ⟨d, d0, d1, d2, d3, d4, d5, d6⟩ := hSk.out _ 3 _ hp rfl
                clear hSk
                replace hp := Lib.hid hp
                have hz1 := hMz.out; have hz2 := hzz.out
                have g1 : ¬9223372036854775807 < 1 + Z.size := by omega
                have g2 : ¬9223372036854775807 < S.size + (1 + Z.size) := by omega
                go_wp2_with (first | (go_at_call 12; (with_reducible refine (hnc.out _ hp.out.bel).mono ?_); rintro e w5 ⟨xla, xlc, xpa, xpc, rfl, h5⟩; replace hp := Lib.hid (show Hp w [] (_ :: _ :: _) w5 from hp.out.take h5); clear h5) | (go_at_call 13; (with_reducible refine (kz.out _ _ _ _ _ hp.out.bel (hp.out.sl (i := 0) rfl (by have := hzl.out; omega)) (hp.out.sl (i := 1) rfl (by have := hzp.out; omega))).mono ?_); rintro e w7 ⟨rfl, b7⟩; replace hp := Lib.hid (hp.out.below b7); clear b7))
                have hp9 := (hp.out.drop 0).drop 0
                have hin9 : inAt (.row 9 1 (.slice zla z.labels.length zlc) z.labels.length (z.labels.map Value.string) :: .row 98 4 (.slice zpa z.props.length zpc) z.props.length (z.props.flatMap P4.cells) :: nrs) ⟨z, zla, zlc, zpa, zpc⟩ := ⟨List.mem_cons_self .., List.mem_cons_of_mem _ (List.mem_cons_self ..)⟩
                have hY9 : ∀ y ∈ Y ++ [⟨z, zla, zlc, zpa, zpc⟩], inAt (.row 9 1 (.slice zla z.labels.length zlc) z.labels.length (z.labels.map Value.string) :: .row 98 4 (.slice zpa z.props.length zpc) z.props.length (z.props.flatMap P4.cells) :: nrs) y := fun y hy => by
                  rcases List.mem_append.1 hy with h | h
                  · exact inAt.mono (hYn.out y h) (fun r hr => List.mem_cons_of_mem _ (List.mem_cons_of_mem _ hr))
                  · rw [List.mem_singleton.1 h]; exact hin9
                have hX9 : (Y ++ [(⟨z, zla, zlc, zpa, zpc⟩ : InV)]).map InV.x = Zs.take (i + 1) := by rw [List.map_append, hYx.out, hf0.out]; rfl
                have hC9 : (Y ++ [(⟨z, zla, zlc, zpa, zpc⟩ : InV)]).flatMap InV.cells = M ++ [.int .u64 z.id, .bool z.edge, .slice zla z.labels.length zlc, .string z.typ, .int .u64 z.fr, .int .u64 z.dst, .slice zpa z.props.length zpc] := by rw [List.flatMap_append, ← hM.out]; rfl
                replace hp9 := Lib.hid hp9; replace hY9 := Lib.hid hY9; replace hX9 := Lib.hid hX9; replace hC9 := Lib.hid hC9
                go_roundg K
                case measure => omega
                case rel => exact ⟨i + 1, ad9, cp9, Y ++ [⟨z, zla, zlc, zpa, zpc⟩], .row 9 1 (.slice zla z.labels.length zlc) z.labels.length (z.labels.map Value.string) :: .row 98 4 (.slice zpa z.props.length zpc) z.props.length (z.props.flatMap P4.cells) :: nrs, by go_num, by have := hik.out; omega, by rw [hs.out], hX9.out, hY9.out, by rw [hC9.out]; exact hp9.out⟩
            · have hk0 : gk = 0 := by omega
              subst hk0
              obtain rfl : nn = i := by omega
              have ht : Zs.take nn = Zs := List.take_of_length_le (by rw [← hnn.out]; exact Nat.le_refl _)
              rw [ht] at hYx ⊢
              have c2 := hp.cell (i := 3) rfl 3
              simp at c2
              replace hp := Lib.hid hp; replace hYx := Lib.hid hYx; replace hYn := Lib.hid hYn
              by_cases hx : nn0 ≤ 3
              · have e1 : ¬ (nn : Int) < (nn0 : Int) := by have := hZl.out; omega
                clear hik hlt hn5 hx ht
                go_wp2
                go_meet
                exact ⟨_, _, Y, nrs, rfl, hYx.out, hYn.out, hp.out⟩
              · have e1 : (nn : Int) < (nn0 : Int) := by have := hZl.out; omega
                have e2 : ¬ (nn : Int) < 3 := by have := hZl.out; omega
                clear hik hlt hn5 hx ht
                go_wp2
                go_meet
                exact ⟨_, _, Y, nrs, rfl, hYx.out, hYn.out, hp.out⟩
        case rest =>
          clear hp hN hnn0 hS1b hszN hZs kI
          obtain ⟨nad, ncp, Y, nrs0, rfl, hYx, hYn, hp⟩ := hcut
          replace hp := Lib.hid (hp.rowNil 51 1); replace hYx := Lib.hid hYx; replace hYn := Lib.hid hYn
          have hszR : ∀ i, (repT id ids Zs (Rs0.take i)).size ≤ 60000 := fun i => (repW_size id ids Zs (Rs0.take i) hid.out (by have := hil.out; have := hni.out; omega) hi2.out (by have := hZl.out; have := hnn.out; omega) hZn.out (by rw [List.length_take]; have := hRl.out; have := hnr.out; omega) (fun r hr => hRn.out r (List.mem_of_mem_take hr))).1
          replace hszR := Lib.hid hszR
          go_upto_block 4 with fail
          go_cut [8, 11, 12, 13, 14] from 104 to 160 (fun s8 s11 s12 s13 s14 wx => ∃ (rad : Option Addr) (rcp : Nat) (R : List RwV) (nrs : List Rs), s8 = .string (repT id ids Zs Rs0) ∧ R.map RwV.l = Rs0 ∧ (∀ y ∈ R, rwAt nrs y) ∧ (∀ y ∈ Y, inAt nrs y) ∧ Hp w [] (.row 51 1 (.slice rad nr rcp) nr (R.flatMap RwV.cells) :: .row 48 7 (.slice nad nn ncp) nn (Y.flatMap InV.cells) :: .row 38 1 (.slice iad ni icp) ni (ids.map (Value.int .u64)) :: .box q7 #[.int .i64 Er, .int .u64 id, .slice iad ni icp, .slice nad nn ncp, .slice rad nr rcp] 43 :: .box q3 #[.int .i64 er, .int .u64 id, .slice ia n0 ic, .slice na nn0 nc, .slice ra nr0 rc] 43 :: nrs) wx)
          case first =>
            go_wp2
            go_loopg [8, 11] nr (fun kk s8 s11 wr => ∃ (i : Nat) (ad : Option Addr) (cp : Nat) (R : List RwV) (nrs : List Rs), s11 = .int .i64 (i : Int) ∧ i + kk = nr ∧ s8 = .string (repT id ids Zs (Rs0.take i)) ∧ R.map RwV.l = Rs0.take i ∧ (∀ y ∈ R, rwAt nrs y) ∧ (∀ y ∈ Y, inAt nrs y) ∧ Hp w [] (.row 51 1 (.slice ad i cp) i (R.flatMap RwV.cells) :: .row 48 7 (.slice nad nn ncp) nn (Y.flatMap InV.cells) :: .row 38 1 (.slice iad ni icp) ni (ids.map (Value.int .u64)) :: .box q7 #[.int .i64 Er, .int .u64 id, .slice iad ni icp, .slice nad nn ncp, .slice ad i cp] 43 :: .box q3 #[.int .i64 er, .int .u64 id, .slice ia n0 ic, .slice na nn0 nc, .slice ra nr0 rc] 43 :: nrs) wr)
            case atStart => exact ⟨0, _, _, [], nrs0, rfl, by omega, rfl, rfl, by simp, hYn.out, hp.out⟩
            case round =>
              clear hp hYn
              obtain ⟨i, ad, cp, R, nrs, rfl, hik, rfl, hRx, hRm, hYn, hp⟩ := hrel
              have hn5 : nr ≤ nr0 ∧ nr ≤ 3 := by have := hRl.out; omega
              by_cases hlt : i < nr
              · obtain ⟨K, rfl⟩ : ∃ K : Nat, gk = K + 1 := ⟨gk - 1, by omega⟩
                obtain ⟨b, o, rfl, hr⟩ := hR.out.resolve_left (by omega)
                obtain ⟨r, hr0⟩ : ∃ r, Rs0[i]? = some r := ⟨_, List.getElem?_eq_getElem (by have := hnr.out; omega)⟩
                obtain ⟨y, hy, hrl, hrk⟩ := hRs.out i r hr0
                have hrn := hRn.out r (List.mem_of_getElem? hr0)
                have hsy := slAt (hrat.out y (List.mem_of_getElem? hy))
                have hf0 : Rs0.take (i + 1) = Rs0.take i ++ [r] := by rw [List.take_add_one, hr0]; rfl
                have hs : repT id ids Zs (Rs0.take (i + 1)) = rowP (repT id ids Zs (Rs0.take i)) r ++ ⟨#[41]⟩ := by rw [hf0]; exact rep_row _ _ _ _ _
                have hMz := hszR.out i
                obtain ⟨S, hS⟩ : ∃ S, S = repT id ids Zs (Rs0.take i) := ⟨_, rfl⟩
                rw [← hS] at hs hMz ⊢
                have hSn : rowP S [] = S ++ ⟨#[32, 40]⟩ := rowP_nil S
                have e0 : (i : Int) < 3 := by omega
                have e1 : (0 : Int) ≤ (i : Int) := by omega
                have e2 : (i : Int) < (nr0 : Int) := by omega
                have b2 := hp.cell (i := 4) rfl 4
                simp at b2
                have hSk := show ∀ (rs : List Rs) (j : Nat) (W' : World), Hp w [] rs W' → rs[j]? = some (.box q3 #[.int .i64 er, .int .u64 id, .slice ia n0 ic, .slice na nn0 nc, .slice (some ⟨b, o, none⟩) nr0 rc] 43) → (W'.cell? ⟨q3, 4, none⟩ = some (.slice (some ⟨b, o, none⟩) nr0 rc) ∧ W'.cell? ⟨b, o + i, none⟩ = some (.slice y.a y.l.length y.c)) from fun rs j W' h hj => ⟨(h.cell hj 4).trans rfl, by have h0 : W'.cell? ⟨b, o + i * 1, none⟩ = some (.slice y.a y.l.length y.c) := (h.bel.cell hr.1).trans (hr.elem0 RwV.cells_len hy rfl); rwa [Nat.mul_one] at h0⟩
                obtain ⟨yl, ya, yc⟩ := y
                simp only at hSk hrk hrl hsy
                obtain ⟨ny, hny⟩ : ∃ k, k = yl.length := ⟨_, rfl⟩
                rw [← hny] at hSk hrl hsy
                obtain ⟨mr, hmr⟩ : ∃ k, k = r.length := ⟨_, rfl⟩
                rw [← hmr] at hrl
                obtain ⟨M, hM⟩ : ∃ M, M = R.flatMap RwV.cells := ⟨_, rfl⟩
                rw [← hM] at hp
                have g1 : ¬9223372036854775807 < S.size + 2 := by omega
                replace hik := Lib.hid hik; replace hs := Lib.hid hs; replace hn5 := Lib.hid hn5; replace hf0 := Lib.hid hf0; replace hMz := Lib.hid hMz; replace hSk := Lib.hid hSk; replace hRx := Lib.hid hRx; replace hRm := Lib.hid hRm; replace hYn := Lib.hid hYn; replace hM := Lib.hid hM; replace hrl := Lib.hid hrl; replace hrk := Lib.hid hrk; replace hsy := Lib.hid hsy; replace hrn := Lib.hid hrn; replace hny := Lib.hid hny; replace hmr := Lib.hid hmr; replace hSn := Lib.hid hSn
                have hl9 := Lib.hid (show i < 100000000 by omega)
                replace hp := Lib.hid hp
                clear hr0 hy hr hS hlt
                go_upto_block 6 with fail
                clear b2 g1
                replace hp := Lib.hid (hp.out.rowLit #[] 53 3 0 (by decide) rfl)
                generalize wr.alloc _ = W4 at hp ⊢
                generalize wr.heap.size = q5 at hp ⊢
                go_cut [8, 12, 13, 14] from 118 to 152 (fun s8 s12 s13 s14 wx => ∃ (vad : Option Addr) (vcp : Nat), s8 = .string (rowP S r) ∧ s12 = .slice vad mr vcp ∧ Hp w [] (.row 53 3 (.slice vad mr vcp) mr (r.flatMap V3.cells) :: .row 51 1 (.slice ad i cp) i (M) :: .row 48 7 (.slice nad nn ncp) nn (Y.flatMap InV.cells) :: .row 38 1 (.slice iad ni icp) ni (ids.map (Value.int .u64)) :: .box q7 #[.int .i64 Er, .int .u64 id, .slice iad ni icp, .slice nad nn ncp, .slice ad i cp] 43 :: .box q3 #[.int .i64 er, .int .u64 id, .slice ia n0 ic, .slice na nn0 nc, .slice (some ⟨b, o, none⟩) nr0 rc] 43 :: nrs) wx)
                case first =>
                  go_wp2
                  go_loopg [8, 12, 13] mr (fun kk s8 s12 s13 wr => ∃ (k : Nat) (vad : Option Addr) (vcp : Nat), s13 = .int .i64 (k : Int) ∧ k + kk = mr ∧ s8 = .string (rowP S (r.take k)) ∧ s12 = .slice vad k vcp ∧ Hp w [] (.row 53 3 (.slice vad k vcp) k ((r.take k).flatMap V3.cells) :: .row 51 1 (.slice ad i cp) i (M) :: .row 48 7 (.slice nad nn ncp) nn (Y.flatMap InV.cells) :: .row 38 1 (.slice iad ni icp) ni (ids.map (Value.int .u64)) :: .box q7 #[.int .i64 Er, .int .u64 id, .slice iad ni icp, .slice nad nn ncp, .slice ad i cp] 43 :: .box q3 #[.int .i64 er, .int .u64 id, .slice ia n0 ic, .slice na nn0 nc, .slice (some ⟨b, o, none⟩) nr0 rc] 43 :: nrs) wr)
                  case atStart => exact ⟨0, _, _, rfl, by omega, by rw [List.take_zero, hSn.out], rfl, hp.out⟩
                  case round =>
                    clear hp hl9
                    obtain ⟨k, vad, vcp, rfl, hkk, rfl, rfl, hp⟩ := hrel
                    have hk5 : mr ≤ ny ∧ mr ≤ 3 := by have := hrl.out; omega
                    obtain ⟨d3, d4⟩ := hSk.out _ 5 _ hp rfl
                    by_cases hltk : k < mr
                    · obtain ⟨L, rfl⟩ : ∃ L : Nat, gk = L + 1 := ⟨gk - 1, by omega⟩
                      obtain ⟨b5, o5, rfl, hr5⟩ := hsy.out.resolve_left (by omega)
                      obtain ⟨v, hv⟩ : ∃ v, r[k]? = some v := ⟨_, List.getElem?_eq_getElem (by have := hmr.out; omega)⟩
                      obtain ⟨u, hu, hvn, huc⟩ := hrk.out k v hv
                      have hf4 : r.take (k + 1) = r.take k ++ [v] := by rw [List.take_add_one, hv]; rfl
                      have hlen : (r.take k).length = k := by rw [List.length_take]; have := hmr.out; omega
                      have hf5 : (r.take (k + 1)).flatMap V3.cells = (r.take k).flatMap V3.cells ++ [.int .i64 v.k, .int .i64 v.n, .string v.s] := by rw [hf4, List.flatMap_append]; simp [V3.cells]
                      have hvz := show.text_size v hvn
                      have kv := kV.out v hvn
                      obtain ⟨Y5, hY5⟩ : ∃ Y, Y = v.text := ⟨_, rfl⟩
                      rw [← hY5] at hvz kv
                      have hs0 : k = 0 → rowP S (r.take (k + 1)) = rowP S (r.take k) ++ Y5 := fun h => by rw [hf4, List.eq_nil_of_length_eq_zero (by rw [hlen]; exact h : (r.take k).length = 0), hY5]; exact rowP_first _ _
                      have hs1 : ¬ k = 0 → rowP S (r.take (k + 1)) = (rowP S (r.take k) ++ ⟨#[44, 32]⟩) ++ Y5 := fun h => by rw [hf4, hY5]; exact rowP_next _ _ _ (fun e => h (by rw [← hlen, e]; rfl))
                      have hPz := rowP_size S (r.take k) hMz.out (by omega) (fun x hx => hrn.out.2 x (List.mem_of_mem_take hx))
                      obtain ⟨P, hP⟩ : ∃ P, P = rowP S (r.take k) := ⟨_, rfl⟩
                      rw [← hP] at hs0 hs1 hPz ⊢
                      obtain ⟨M5, hM5⟩ : ∃ M, M = (r.take k).flatMap V3.cells := ⟨_, rfl⟩
                      rw [← hM5] at hf5 hp
                      obtain ⟨uk, un, us⟩ := u
                      obtain ⟨vk, vn, vs⟩ := v
                      simp only at hf5 huc kv
                      have x0 : wr.cell? ⟨b5, o5 + k * 3, none⟩ = some (.int .i64 uk) := (hp.bel.cell hr5.1).trans (hr5.elem0 V3.cells_len hu rfl)
                      have x1 : wr.cell? ⟨b5, o5 + k * 3 + 1, none⟩ = some (.int .i64 un) := (hp.bel.cell hr5.1).trans (hr5.elem V3.cells_len hu rfl)
                      have x2 : wr.cell? ⟨b5, o5 + k * 3 + 2, none⟩ = some (.string us) := (hp.bel.cell hr5.1).trans (hr5.elem V3.cells_len hu rfl)
                      have e3 : (k : Int) < 3 := by omega
                      have e4 : (0 : Int) ≤ (k : Int) := by omega
                      have e5 : (k : Int) < (ny : Int) := by omega
                      have hl5 := Lib.hid (show k < 100000000 by omega)
                      replace hkk := Lib.hid hkk; replace hk5 := Lib.hid hk5; replace hf5 := Lib.hid hf5; replace huc := Lib.hid huc; replace kv := Lib.hid kv; replace hs0 := Lib.hid hs0; replace hs1 := Lib.hid hs1; replace hPz := Lib.hid hPz; replace hvz := Lib.hid hvz; replace hp := Lib.hid hp
                      clear hv hu hvn hf4 hlen hY5 hP hM5 hltk hr5
                      go_upto_region 29 with (go_at_call 14; (with_reducible refine (huc.out _).mono ?_); rintro e w1 ⟨rfl, b1⟩; replace hp := Lib.hid (hp.out.below b1); clear b1)
                      clear d3 d4 x0 x1 x2
                      replace hp := Lib.hid (hp.out.alloc #[.int .i64 vk, .int .i64 vn, .string vs] 53)
                      generalize World.alloc _ _ = W6 at hp ⊢
                      generalize w1.heap.size = q14 at hp ⊢
                      have y0 := hp.out.cell (i := 0) rfl 0; have y1 := hp.out.cell (i := 0) rfl 1; have y2 := hp.out.cell (i := 0) rfl 2
                      simp at y0 y1 y2
                      go_upto_region 30 with (at_builtin; go_loud (refine wpList_append_hp rfl _ _ rfl Tryd.underlying51 valInfo rfl (by decide) (by decide) (hp.out.alloc_ (.cells #[.int .i64 vk, .int .i64 vn, .string vs] 53)) 1 rfl rfl _ _ [.int .i64 vk, .int .i64 vn, .string vs] rfl rfl (block_cells (heap_alloc_new _ _)) (by intro u hu; simp at hu; rcases hu with rfl | rfl | rfl <;> rfl) hl5.out ?_; intro v5 w5 hp5 hv5; replace hp5 := Lib.hid hp5; obtain ⟨ad5, cp5, rfl⟩ := hv5))
                      clear y0 y1 y2 hp
                      have y0 := hp5.out.cell (i := 0) rfl 0; have y1 := hp5.out.cell (i := 0) rfl 1; have y2 := hp5.out.cell (i := 0) rfl 2
                      simp at y0 y1 y2
                      have hz1 := hPz.out; have hz2 := hvz.out
                      have g1 : ¬9223372036854775807 < P.size + 2 := by omega
                      have g2 : ¬9223372036854775807 < P.size + 2 + Y5.size := by omega
                      have g3 : ¬9223372036854775807 < P.size + Y5.size := by omega
                      by_cases hi0 : k = 0
                      · have hs9 := Lib.hid (hs0.out hi0)
                        have hi9 : ¬ (0 : Int) < (k : Int) := by omega
                        clear hs0 hs1
                        replace hi0 := Lib.hid hi0
                        go_wp2_with (go_at_call 15; (with_reducible refine (kv.out _ hp5.out.bel).mono ?_); rintro e w7 ⟨rfl, b7⟩; replace hp5 := Lib.hid (hp5.out.below b7); clear b7)
                        go_roundg L
                        case measure => omega
                        case rel => exact ⟨k + 1, _, _, by go_num, by have := hkk.out; omega, by rw [hs9.out], rfl, by rw [hf5.out]; exact hp5.out.drop 0⟩
                      · have hs9 := Lib.hid (hs1.out hi0)
                        have hi9 : (0 : Int) < (k : Int) := by omega
                        clear hs0 hs1
                        replace hi0 := Lib.hid hi0
                        go_wp2_with (go_at_call 15; (with_reducible refine (kv.out _ hp5.out.bel).mono ?_); rintro e w7 ⟨rfl, b7⟩; replace hp5 := Lib.hid (hp5.out.below b7); clear b7)
                        go_roundg L
                        case measure => omega
                        case rel => exact ⟨k + 1, _, _, by go_num, by have := hkk.out; omega, by rw [hs9.out], rfl, by rw [hf5.out]; exact hp5.out.drop 0⟩
                    · have hk0 : gk = 0 := by omega
                      subst hk0
                      obtain rfl : mr = k := by omega
                      have ht : r.take mr = r := List.take_of_length_le (by rw [← hmr.out]; exact Nat.le_refl _)
                      rw [ht] at hp ⊢
                      replace hp := Lib.hid hp
                      by_cases hx : ny ≤ 3
                      · have e3 : ¬ (mr : Int) < (ny : Int) := by have := hrl.out; omega
                        clear hkk hltk hk5 hx ht
                        go_wp2
                        go_meet
                        exact ⟨_, _, rfl, rfl, hp.out⟩
                      · have e3 : (mr : Int) < (ny : Int) := by have := hrl.out; omega
                        have e4 : ¬ (mr : Int) < 3 := by have := hrl.out; omega
                        clear hkk hltk hk5 hx ht
                        go_wp2
                        go_meet
                        exact ⟨_, _, rfl, rfl, hp.out⟩
                case rest =>
                  clear hp
                  obtain ⟨vad, vcp, rfl, rfl, hp⟩ := hcut
                  have hPz := rowP_size S r hMz.out (by have := hrn.out.1; omega) hrn.out.2
                  obtain ⟨P, hP⟩ : ∃ P, P = rowP S r := ⟨_, rfl⟩
                  have hs2 := hs.out
                  rw [← hP] at hs2 hPz ⊢
                  have g1 : ¬9223372036854775807 < P.size + 1 := by omega
                  replace hs2 := Lib.hid hs2
                  clear hP hPz hs hSk
                  have c4 := hp.cell (i := 4) rfl 4
                  simp at c4
                  replace hp := Lib.hid hp
                  go_upto_region 34 with (at_builtin; go_loud (refine wpList_append_hp rfl _ _ rfl Tryd.underlying41 valsInfo rfl (by decide) (by decide) (hp.out.alloc_ (.cells #[.slice vad mr vcp] 51)) 1 rfl rfl _ _ [.slice vad mr vcp] rfl rfl (block_cells (heap_alloc_new _ _)) (by intro u hu; simp at hu; rcases hu with rfl; rfl) hl9.out ?_; intro v5 w5 hp5 hv5; replace hp5 := Lib.hid hp5; obtain ⟨ad5, cp5, rfl⟩ := hv5; have m5 := hp5.out.cell (i := 4) rfl 4; have f5 := hp5.out.free (i := 4) rfl 4; simp at m5))
                  clear hp c4 m5 f5
                  have hp6 := Lib.hid (turn15 (hp5.out.put (i := 4) rfl 4 (.slice (some ⟨ad5, 0, none⟩) (i + 1) cp5)))
                  clear hp5
                  generalize World.setCell _ _ _ = W6 at hp6 ⊢
                  have hr9 : rwAt (.row 53 3 (.slice vad mr vcp) mr (r.flatMap V3.cells) :: nrs) ⟨r, vad, vcp⟩ := by unfold rwAt; rw [hmr.out]; exact List.mem_cons_self ..
                  replace hr9 := Lib.hid hr9
                  have hY9 : ∀ y ∈ R ++ [⟨r, vad, vcp⟩], rwAt (.row 53 3 (.slice vad mr vcp) mr (r.flatMap V3.cells) :: nrs) y := fun y hy => by
                    rcases List.mem_append.1 hy with h | h
                    · exact rwAt.mono (hRm.out y h) (fun r hr => List.mem_cons_of_mem _ hr)
                    · rw [List.mem_singleton.1 h]; exact hr9.out
                  have hI9 : ∀ y ∈ Y, inAt (.row 53 3 (.slice vad mr vcp) mr (r.flatMap V3.cells) :: nrs) y := fun y hy => inAt.mono (hYn.out y hy) (fun r hr => List.mem_cons_of_mem _ hr)
                  have hX9 : (R ++ [(⟨r, vad, vcp⟩ : RwV)]).map RwV.l = Rs0.take (i + 1) := by rw [List.map_append, hRx.out, hf0.out]; rfl
                  have hC9 : (R ++ [(⟨r, vad, vcp⟩ : RwV)]).flatMap RwV.cells = M ++ [.slice vad mr vcp] := by rw [List.flatMap_append, ← hM.out, hmr.out]; rfl
                  replace hY9 := Lib.hid hY9; replace hI9 := Lib.hid hI9; replace hX9 := Lib.hid hX9; replace hC9 := Lib.hid hC9
                  go_wp2
                  go_roundg K
                  case measure => omega
                  case rel => exact ⟨i + 1, some ⟨ad5, 0, none⟩, cp5, R ++ [⟨r, vad, vcp⟩], .row 53 3 (.slice vad mr vcp) mr (r.flatMap V3.cells) :: nrs, by go_num, by have := hik.out; omega, by rw [hs2.out], hX9.out, hY9.out, hI9.out, by rw [hC9.out]; exact hp6.out⟩
              · have hk0 : gk = 0 := by omega
                subst hk0
                obtain rfl : nr = i := by omega
                have ht : Rs0.take nr = Rs0 := List.take_of_length_le (by rw [← hnr.out]; exact Nat.le_refl _)
                rw [ht] at hRx ⊢
                have c2 := hp.cell (i := 4) rfl 4
                simp at c2
                replace hp := Lib.hid hp; replace hRx := Lib.hid hRx; replace hRm := Lib.hid hRm; replace hYn := Lib.hid hYn
                by_cases hx : nr0 ≤ 3
                · have e1 : ¬ (nr : Int) < (nr0 : Int) := by have := hRl.out; omega
                  clear hik hlt hn5 hx ht
                  go_wp2
                  go_meet
                  exact ⟨_, _, R, nrs, rfl, hRx.out, hRm.out, hYn.out, hp.out⟩
                · have e1 : (nr : Int) < (nr0 : Int) := by have := hRl.out; omega
                  have e2 : ¬ (nr : Int) < 3 := by have := hRl.out; omega
                  clear hik hlt hn5 hx ht
                  go_wp2
                  go_meet
                  exact ⟨_, _, R, nrs, rfl, hRx.out, hRm.out, hYn.out, hp.out⟩
          case rest =>
            clear hp hYn hR hnr0 hszR hRs hrat kV
            obtain ⟨rad, rcp, R, nrs, rfl, hRx, hRm, hYn, hp⟩ := hcut
            have hYlen : Y.length = nn := by have := congrArg List.length hYx.out; rw [List.length_map] at this; rw [this]; exact hnn.out.symm
            have hRlen : R.length = nr := by have := congrArg List.length hRx; rw [List.length_map] at this; rw [this]; exact hnr.out.symm
            obtain ⟨FT, hFT⟩ : ∃ F, F = if Er = 0 then repT id ids Zs Rs0 else errT Er := ⟨_, rfl⟩
            have kR : ∀ W, Hp w [] (.row 51 1 (.slice rad nr rcp) nr (R.flatMap RwV.cells) :: .row 48 7 (.slice nad nn ncp) nn (Y.flatMap InV.cells) :: .row 38 1 (.slice iad ni icp) ni (ids.map (Value.int .u64)) :: .box q7 #[.int .i64 Er, .int .u64 id, .slice iad ni icp, .slice nad nn ncp, .slice rad nr rcp] 43 :: .box q3 #[.int .i64 er, .int .u64 id, .slice ia n0 ic, .slice na nn0 nc, .slice ra nr0 rc] 43 :: nrs) W → ∀ W', Below W.heap.size W W' → Calls Tryd.prog 18 #[.agg #[.int .i64 Er, .int .u64 id, .slice iad ni icp, .slice nad nn ncp, .slice rad nr rcp]] W' fun e w' => e = .returned (.string FT) ∧ Below W'.heap.size W' w' := fun W hpW W' hb => by
              have hpW2 := hpW.below hb
              have s1 : Sl W' (.slice iad ni icp) ni (ids.map (Value.int .u64)) := hpW2.sl (i := 2) rfl (by have := hil.out; omega)
              have s2 : Sl W' (.slice nad nn ncp) nn (Y.flatMap InV.cells) := hpW2.sl (i := 1) rfl (by have := hZl.out; omega)
              have s3 : Sl W' (.slice rad nr rcp) nr (R.flatMap RwV.cells) := hpW2.sl (i := 0) rfl (by have := hRl.out; omega)
              have sub : ∀ r ∈ nrs, r ∈ (.row 51 1 (.slice rad nr rcp) nr (R.flatMap RwV.cells) :: .row 48 7 (.slice nad nn ncp) nn (Y.flatMap InV.cells) :: .row 38 1 (.slice iad ni icp) ni (ids.map (Value.int .u64)) :: .box q7 #[.int .i64 Er, .int .u64 id, .slice iad ni icp, .slice nad nn ncp, .slice rad nr rcp] 43 :: .box q3 #[.int .i64 er, .int .u64 id, .slice ia n0 ic, .slice na nn0 nc, .slice ra nr0 rc] 43 :: nrs) := fun r hr => List.mem_cons_of_mem _ (List.mem_cons_of_mem _ (List.mem_cons_of_mem _ (List.mem_cons_of_mem _ (List.mem_cons_of_mem _ hr))))
              have oY : ∀ y ∈ Y, y.ok W' := fun y hy => in_ok hpW2 (hYn y hy) sub (hZn.out _ (by rw [← hYx.out]; exact List.mem_map.2 ⟨y, hy, rfl⟩))
              have oR : ∀ y ∈ R, y.ok W' := fun y hy => by have h9 := hRn.out y.l (by rw [← hRx]; exact List.mem_map.2 ⟨y, hy, rfl⟩); exact rw_ok hpW2 (hRm y hy) sub h9.2 h9.1
              have h9 := reply_any Er id ids Y R iad icp nad ncp rad rcp W' (hT.out.keep hpW2.bel) hid.out (by have := hE8.out; omega) (by rw [← hni.out]; have := hil.out; omega) hi2.out (by rw [hYlen]; have := hZl.out; omega) oY (by rw [hRlen]; have := hRl.out; omega) oR (by rw [← hni.out]; exact s1) (by rw [hYlen]; exact s2) (by rw [hRlen]; exact s3)
              rw [hYx.out, hRx, ← hFT, ← hni.out, hYlen, hRlen] at h9
              exact h9
            obtain ⟨Rx, hRX⟩ : ∃ X, X = repT id ids Zs Rs0 := ⟨_, rfl⟩
            rw [← hRX] at hFT ⊢
            have hF0 : Er = 0 → Rx = FT := fun h => by rw [hFT, if_pos h]
            have hF1 : ¬ Er = 0 → errT Er = FT := fun h => by rw [hFT, if_neg h]
            replace hF0 := Lib.hid hF0; replace hF1 := Lib.hid hF1; replace kR := Lib.hid kR
            clear hFT hRX hYlen hRlen hRm hYn hRx hYx
            have c0 := hp.cell (i := 3) rfl 0
            simp at c0
            replace hp := Lib.hid hp
            go_upto_if 163 with fail
            go_cut [8] from 163 to 166 (fun s8 wx => s8 = .string FT ∧ Hp w [] (.row 51 1 (.slice rad nr rcp) nr (R.flatMap RwV.cells) :: .row 48 7 (.slice nad nn ncp) nn (Y.flatMap InV.cells) :: .row 38 1 (.slice iad ni icp) ni (ids.map (Value.int .u64)) :: .box q7 #[.int .i64 Er, .int .u64 id, .slice iad ni icp, .slice nad nn ncp, .slice rad nr rcp] 43 :: .box q3 #[.int .i64 er, .int .u64 id, .slice ia n0 ic, .slice na nn0 nc, .slice ra nr0 rc] 43 :: nrs) wx)
            case first =>
              by_cases hz : Er = 0
              · have hx := Lib.hid (hF0.out hz)
                have hz2 : (Er != 0) = false := by rw [hz]; rfl
                replace hz := Lib.hid hz
                clear hF0 hF1
                go_wp2
                go_meet
                exact ⟨by rw [hx.out], hp.out⟩
              · have hx := Lib.hid (hF1.out hz)
                have hz2 : (Er != 0) = true := by simp [hz]
                replace hz := Lib.hid hz
                clear hF0 hF1
                go_wp2_with (go_at_call 16; (with_reducible refine (kE.out _ hp.out.bel).mono ?_); rintro e w1 ⟨rfl, b1⟩; replace hp := Lib.hid (hp.out.below b1); clear b1)
                go_meet
                exact ⟨by rw [hx.out], hp.out⟩
            case rest =>
              clear hp c0 hF0 hF1
              obtain ⟨rfl, hp⟩ := hcut
              replace hp := Lib.hid hp
              go_upto_region 38 with fail
              obtain ⟨ALL, hALL⟩ : ∃ X, X = saidT true tell done FT := ⟨_, rfl⟩
              have kS1 : ∀ W, Hp w [] (.row 51 1 (.slice rad nr rcp) nr (R.flatMap RwV.cells) :: .row 48 7 (.slice nad nn ncp) nn (Y.flatMap InV.cells) :: .row 38 1 (.slice iad ni icp) ni (ids.map (Value.int .u64)) :: .box q7 #[.int .i64 Er, .int .u64 id, .slice iad ni icp, .slice nad nn ncp, .slice rad nr rcp] 43 :: .box q3 #[.int .i64 er, .int .u64 id, .slice ia n0 ic, .slice na nn0 nc, .slice ra nr0 rc] 43 :: nrs) W → Calls Tryd.prog 19 #[.agg #[.bool true, .int .i64 Er, .int .u64 id, .slice iad ni icp, .slice nad nn ncp, .slice rad nr rcp, .int .i64 tell, .bool done]] W fun e w' => e = .returned (.string ALL) ∧ Below W.heap.size W w' := fun W hpW => by rw [hALL]; exact said_any true Er id _ _ _ tell done FT W (fun W' hb => kR.out W hpW W' hb) ⟨_, _, _, rfl⟩ ⟨_, _, _, rfl⟩ ⟨_, _, _, rfl⟩
              have kS2 : ∀ W, Hp w [] (.row 51 1 (.slice rad nr rcp) nr (R.flatMap RwV.cells) :: .row 48 7 (.slice nad nn ncp) nn (Y.flatMap InV.cells) :: .row 38 1 (.slice iad ni icp) ni (ids.map (Value.int .u64)) :: .box q7 #[.int .i64 Er, .int .u64 id, .slice iad ni icp, .slice nad nn ncp, .slice rad nr rcp] 43 :: .box q3 #[.int .i64 er, .int .u64 id, .slice ia n0 ic, .slice na nn0 nc, .slice ra nr0 rc] 43 :: nrs) W → Calls Tryd.prog 19 #[.agg #[.bool false, .int .i64 Er, .int .u64 id, .slice iad ni icp, .slice nad nn ncp, .slice rad nr rcp, .int .i64 tell, .bool done]] W fun e w' => e = .returned (.string ⟨#[110, 111, 110, 101]⟩) ∧ Below W.heap.size W w' := fun W hpW => said_any false Er id _ _ _ tell done FT W (fun W' hb => kR.out W hpW W' hb) ⟨_, _, _, rfl⟩ ⟨_, _, _, rfl⟩ ⟨_, _, _, rfl⟩
              have kN : ∀ W, Below w.heap.size w W → Calls Tryd.prog 20 #[.slice none 0 0] W fun e w' => e = .returned (.string ⟨#[91, 93]⟩) ∧ Below W.heap.size W w' := fun W hb => ids_any _ [] W (hT.out.keep hb) (Sl.nil W) (by simp) (by simp)
              replace kS1 := Lib.hid kS1; replace kS2 := Lib.hid kS2; replace kN := Lib.hid kN; replace hALL := Lib.hid hALL
              have hse1 : (FT.toList == FT.toList) = true := by simp
              have hse2 : (ALL.toList == ALL.toList) = true := by simp
              obtain ⟨A1, hA1⟩ : ∃ X, X = if done = true then (⟨#[100, 111, 110, 101]⟩ : ByteArray) else FT := ⟨_, rfl⟩
              have hAL : ALL = if tell = 2 then (⟨#[119, 97, 105, 116, 115]⟩ : ByteArray) else A1 := by rw [hALL.out, hA1]; unfold saidT; rw [if_pos rfl]
              replace hA1 := Lib.hid hA1; replace hAL := Lib.hid hAL
              clear hALL
              go_upto_if 168 with fail
              go_cut [15] from 168 to 168 (fun s15 wx => s15 = .string A1 ∧ Hp w [] (.row 51 1 (.slice rad nr rcp) nr (R.flatMap RwV.cells) :: .row 48 7 (.slice nad nn ncp) nn (Y.flatMap InV.cells) :: .row 38 1 (.slice iad ni icp) ni (ids.map (Value.int .u64)) :: .box q7 #[.int .i64 Er, .int .u64 id, .slice iad ni icp, .slice nad nn ncp, .slice rad nr rcp] 43 :: .box q3 #[.int .i64 er, .int .u64 id, .slice ia n0 ic, .slice na nn0 nc, .slice ra nr0 rc] 43 :: nrs) wx)
              case first =>
                clear hAL hse1 hse2 kS1 kS2 kN kA kR
                cases done
                · have e := Lib.hid (hA1.out.trans (if_neg (by simp)))
                  clear hA1
                  go_wp2
                  go_meet
                  exact ⟨by rw [e.out], hp.out⟩
                · have e := Lib.hid (hA1.out.trans (if_pos rfl))
                  clear hA1
                  go_wp2
                  go_meet
                  exact ⟨by rw [e.out], hp.out⟩
              case rest =>
                clear hp hA1
                obtain ⟨rfl, hp⟩ := hcut
                replace hp := Lib.hid hp
                go_upto_if 170 with fail
                go_cut [15] from 170 to 170 (fun s15 wx => s15 = .string ALL ∧ Hp w [] (.row 51 1 (.slice rad nr rcp) nr (R.flatMap RwV.cells) :: .row 48 7 (.slice nad nn ncp) nn (Y.flatMap InV.cells) :: .row 38 1 (.slice iad ni icp) ni (ids.map (Value.int .u64)) :: .box q7 #[.int .i64 Er, .int .u64 id, .slice iad ni icp, .slice nad nn ncp, .slice rad nr rcp] 43 :: .box q3 #[.int .i64 er, .int .u64 id, .slice ia n0 ic, .slice na nn0 nc, .slice ra nr0 rc] 43 :: nrs) wx)
                case first =>
                  clear hse1 hse2 kS1 kS2 kN kA kR
                  by_cases ht : tell = 2
                  · have e := Lib.hid (hAL.out.trans (if_pos ht))
                    have ht2 : (tell == 2) = true := by rw [ht]; rfl
                    replace ht := Lib.hid ht
                    clear hAL
                    go_wp2
                    go_meet
                    exact ⟨by rw [e.out], hp.out⟩
                  · have e := Lib.hid (hAL.out.trans (if_neg ht))
                    have ht2 : (tell == 2) = false := by rw [beq_eq_false_iff_ne]; exact ht
                    replace ht := Lib.hid ht
                    clear hAL
                    go_wp2
                    go_meet
                    exact ⟨by rw [e.out], hp.out⟩
                case rest =>
                  clear hp hAL
                  obtain ⟨rfl, hp⟩ := hcut
                  replace hp := Lib.hid hp
                  have c0 := hp.out.cell (i := 3) rfl 0; have c1 := hp.out.cell (i := 3) rfl 1; have c2 := hp.out.cell (i := 3) rfl 2; have c3 := hp.out.cell (i := 3) rfl 3; have c4 := hp.out.cell (i := 3) rfl 4; simp at c0 c1 c2 c3 c4
                  go_wp2_with (first | (go_at_call 17; (with_reducible refine (kA.out _ hp.out.bel).mono ?_); rintro e w1 ⟨rfl, b1⟩; replace hp := Lib.hid (hp.out.below b1); clear b1; have c0 := hp.out.cell (i := 3) rfl 0; have c1 := hp.out.cell (i := 3) rfl 1; have c2 := hp.out.cell (i := 3) rfl 2; have c3 := hp.out.cell (i := 3) rfl 3; have c4 := hp.out.cell (i := 3) rfl 4; simp at c0 c1 c2 c3 c4) | (go_at_call 18; (with_reducible refine (kR.out _ hp.out _ (Below.refl _ _)).mono ?_); rintro e w1 ⟨rfl, b1⟩; replace hp := Lib.hid (hp.out.below b1); clear b1; have c0 := hp.out.cell (i := 3) rfl 0; have c1 := hp.out.cell (i := 3) rfl 1; have c2 := hp.out.cell (i := 3) rfl 2; have c3 := hp.out.cell (i := 3) rfl 3; have c4 := hp.out.cell (i := 3) rfl 4; simp at c0 c1 c2 c3 c4) | (go_at_call 19; (with_reducible refine (kS1.out _ hp.out).mono ?_); rintro e w1 ⟨rfl, b1⟩; replace hp := Lib.hid (hp.out.below b1); clear b1; have c0 := hp.out.cell (i := 3) rfl 0; have c1 := hp.out.cell (i := 3) rfl 1; have c2 := hp.out.cell (i := 3) rfl 2; have c3 := hp.out.cell (i := 3) rfl 3; have c4 := hp.out.cell (i := 3) rfl 4; simp at c0 c1 c2 c3 c4) | (go_at_call 19; (with_reducible refine (kS2.out _ hp.out).mono ?_); rintro e w1 ⟨rfl, b1⟩; replace hp := Lib.hid (hp.out.below b1); clear b1; have c0 := hp.out.cell (i := 3) rfl 0; have c1 := hp.out.cell (i := 3) rfl 1; have c2 := hp.out.cell (i := 3) rfl 2; have c3 := hp.out.cell (i := 3) rfl 3; have c4 := hp.out.cell (i := 3) rfl 4; simp at c0 c1 c2 c3 c4) | (go_at_call 20; (with_reducible refine (kN.out _ hp.out.bel).mono ?_); rintro e w1 ⟨rfl, b1⟩; replace hp := Lib.hid (hp.out.below b1); clear b1))
                  go_ret
                  exact ⟨rfl, hp.out.bel⟩
end Go.Proofs.YtgbkpkioijbgoaaDoor.show
