/- The keys of a page, whether they rise, and whether a page may be (node.Keys, rise, May). No condition but that there are few entries and pages. -/
import Derived.Test.YtcdgnhhciccoeaaNod4
import Derived.Deep.CutBlock
namespace Go.Proofs.Ytcdgnhhciccoeaa.nod
open Go.RowKit
attribute [local go_sem ↓] Go.wp_at_zero Go.wp_at_succ
set_option linter.unusedVariables false
set_option linter.unusedSimpArgs false
set_option maxRecDepth 100000

def kyC (l : List ByteArray) : List Value := l.map Value.string
def keysL (E : List En) (K : List Kd) : List ByteArray := E.map En.k ++ K.map Kd.lo
theorem kyC_len (l : List ByteArray) : (kyC l).length = l.length := by simp [kyC]
theorem kyC_append (a b : List ByteArray) : kyC (a ++ b) = kyC a ++ kyC b := by simp [kyC]
theorem kyC_one (l : List ByteArray) : ∀ u ∈ kyC l, u.oneCell' = true := fun u h => by
  obtain ⟨x, _, rfl⟩ := List.mem_map.1 h; rfl
theorem keysL_len (E : List En) (K : List Kd) : (keysL E K).length = E.length + K.length := by simp [keysL]
theorem sInfo : (Try.prog.info? 9).map (fun i => (i.zero, i.size, i.bytes)) = some (some (.string ⟨#[]⟩), 1, 16) := by kernel_rfl
set_option maxHeartbeats 8000000 in
theorem keys_any (ev kv : Value) (E : List En) (K : List Kd) (w : World) (he : Sl w ev E.length (enC E)) (hk : Sl w kv K.length (kdC K)) (hE : E.length ≤ 1000) (hK : K.length ≤ 1000) :
    Calls Try.prog 30 #[.agg #[ev, kv]] w fun e w' => ∃ v', e = .returned v' ∧ Hp w [] [.row 9 1 v' (E.length + K.length) (kyC (keysL E K))] w' := by
  have hp0 := ((Hp.none_ w []).rowNil 9 1).alloc #[ev, kv] 25
  obtain ⟨a, ac, rfl, _, h1⟩ := he
  obtain ⟨b, bc, rfl, _, h2⟩ := hk
  obtain ⟨ne, hne⟩ : ∃ n, n = E.length := ⟨_, rfl⟩
  obtain ⟨nk, hnk⟩ : ∃ n, n = K.length := ⟨_, rfl⟩
  obtain ⟨S, hS⟩ : ∃ S, S = kyC (keysL E K) := ⟨_, rfl⟩
  rw [← hne] at h1 hp0 hE ⊢
  rw [← hnk] at h2 hp0 hK ⊢
  rw [← hS]
  replace h1 := Lib.hid h1; replace h2 := Lib.hid h2; replace hne := Lib.hid hne; replace hnk := Lib.hid hnk; replace hp0 := Lib.hid hp0; replace hS := Lib.hid hS
  go_enter Try.func30, Try.ntmps30
  go_upto_region 1 with fail
  generalize w.alloc _ = W at hp0 ⊢
  generalize hq2 : w.heap.size = q at hp0 ⊢
  clear hq2
  have c0 := hp0.out.cell (i := 0) rfl 0; have c1 := hp0.out.cell (i := 0) rfl 1
  simp at c0 c1
  have hp := hp0
  clear hp0
  go_upto_region 3 with fail
  clear c0 c1
  go_loopg [3, 11] ne (fun gm s3 s11 wr => ∃ (i : Nat) (ad : Option Addr) (cp : Nat), s3 = .slice ad i cp ∧ s11 = .int .i64 (i : Int) ∧ i + gm = ne ∧ Hp w [] [.box q #[.slice a ne ac, .slice b nk bc] 25, .row 9 1 (.slice ad i cp) i (kyC ((E.take i).map En.k))] wr)
  case atStart => exact ⟨0, none, 0, rfl, rfl, by omega, hp.out⟩
  case round =>
    clear hp
    obtain ⟨i, ad, cp, rfl, rfl, hi, hp⟩ := hrel
    replace hp := Lib.hid hp
    cases gk with
    | succ u =>
      have e1 : (i : Int) < (ne : Int) := by omega
      have e2 : (0 : Int) ≤ (i : Int) := by omega
      obtain ⟨bb, o, rfl, hr⟩ := h1.out.resolve_left (by omega)
      obtain ⟨x, hx⟩ : ∃ x, E[i]? = some x := ⟨_, List.getElem?_eq_getElem (by have := hne.out; omega)⟩
      obtain ⟨xk, xv⟩ := x
      have d0 : wr.cell? ⟨bb, o + i * 2, none⟩ = some (.string xk) := (hp.out.bel.cell hr.1).trans (hr.elem0 En.c_len hx rfl)
      have d1 : wr.cell? ⟨bb, o + i * 2 + 1, none⟩ = some (.string xv) := (hp.out.bel.cell hr.1).trans (hr.elem En.c_len hx rfl)
      have hzs : kyC ((E.take i).map En.k) ++ [.string xk] = kyC ((E.take (i + 1)).map En.k) := by rw [List.take_add_one, hx]; simp [kyC]
      have hi2 : i < 100000000 := by omega
      replace hzs := Lib.hid hzs
      clear hr hx
      go_upto_region 5 with fail
      have hp2 := Lib.hid (hp.out.alloc #[.string xk, .string xv] 43)
      clear d0 d1 hp
      generalize wr.alloc _ = W5 at hp2 ⊢
      generalize wr.heap.size = qb at hp2 ⊢
      have c0 := hp2.out.cell (i := 0) rfl 0
      simp at c0
      go_wp2_with (at_builtin; (refine wpList_append_hp rfl _ _ rfl Try.underlying51 sInfo rfl (by decide) (by decide) (hp2.out.alloc_ (.cells #[.string xk] 9)) 2 rfl rfl _ _ [.string xk] rfl rfl (block_cells (heap_alloc_new _ _)) (by intro u hu; simp at hu; subst hu; rfl) hi2 ?_; intro v5 w5 h5 hv5; rw [hzs.out] at h5; have hp5 := Lib.hid h5; clear h5; obtain ⟨b5, cp5, rfl⟩ := hv5))
      go_roundg u
      case rel => exact ⟨i + 1, _, _, rfl, by go_num, by omega, hp5.out.drop 0⟩
      case measure => omega
    | zero =>
      obtain rfl : i = ne := by omega
      have e1 : ¬ (i : Int) < (i : Int) := by omega
      rw [List.take_of_length_le (by have := hne.out; omega)] at hp
      have c0 := hp.out.cell (i := 0) rfl 0; have c1 := hp.out.cell (i := 0) rfl 1
      simp at c0 c1
      go_upto_region 8 with fail
      clear c0 c1
      go_loopg [3, 24] nk (fun gm s3 s24 wr => ∃ (m n : Nat) (ad : Option Addr) (cp : Nat), s3 = .slice ad n cp ∧ s24 = .int .i64 (m : Int) ∧ m + gm = nk ∧ n = i + m ∧ Hp w [] [.box q #[.slice a i ac, .slice b nk bc] 25, .row 9 1 (.slice ad n cp) n (kyC (E.map En.k ++ (K.take m).map Kd.lo))] wr)
      case atStart => exact ⟨0, i, ad, cp, rfl, rfl, by omega, rfl, by simpa using hp.out⟩
      case round =>
        clear hp
        obtain ⟨m, n, ad, cp, rfl, rfl, hm, hn, hp⟩ := hrel
        replace hp := Lib.hid hp
        cases gk with
        | succ u =>
          have e1 : (m : Int) < (nk : Int) := by omega
          have e2 : (0 : Int) ≤ (m : Int) := by omega
          obtain ⟨bb, o, rfl, hr⟩ := h2.out.resolve_left (by omega)
          obtain ⟨x, hx⟩ : ∃ x, K[m]? = some x := ⟨_, List.getElem?_eq_getElem (by have := hnk.out; omega)⟩
          obtain ⟨xl, xp, xs⟩ := x
          have d0 : wr.cell? ⟨bb, o + m * 3, none⟩ = some (.string xl) := (hp.out.bel.cell hr.1).trans (hr.elem0 Kd.c_len hx rfl)
          have d1 : wr.cell? ⟨bb, o + m * 3 + 1, none⟩ = some (.int .i64 xp) := (hp.out.bel.cell hr.1).trans (hr.elem Kd.c_len hx rfl)
          have d2 : wr.cell? ⟨bb, o + m * 3 + 2, none⟩ = some (.string xs) := (hp.out.bel.cell hr.1).trans (hr.elem Kd.c_len hx rfl)
          have hzs : kyC (E.map En.k ++ (K.take m).map Kd.lo) ++ [.string xl] = kyC (E.map En.k ++ (K.take (m + 1)).map Kd.lo) := by rw [List.take_add_one, hx]; simp [kyC]
          have hi2 : n < 100000000 := by omega
          replace hzs := Lib.hid hzs; replace hn := Lib.hid hn
          clear hr hx
          go_upto_region 10 with fail
          have hp2 := Lib.hid (hp.out.alloc #[.string xl, .int .i64 xp, .string xs] 41)
          clear d0 d1 d2 hp
          generalize wr.alloc _ = W5 at hp2 ⊢
          generalize wr.heap.size = qb at hp2 ⊢
          have c0 := hp2.out.cell (i := 0) rfl 0
          simp at c0
          go_wp2_with (at_builtin; (refine wpList_append_hp rfl _ _ rfl Try.underlying51 sInfo rfl (by decide) (by decide) (hp2.out.alloc_ (.cells #[.string xl] 9)) 2 rfl rfl _ _ [.string xl] rfl rfl (block_cells (heap_alloc_new _ _)) (by intro u hu; simp at hu; subst hu; rfl) hi2 ?_; intro v5 w5 h5 hv5; rw [hzs.out] at h5; have hp5 := Lib.hid h5; clear h5; obtain ⟨b5, cp5, rfl⟩ := hv5))
          go_roundg u
          case rel => exact ⟨m + 1, n + 1, _, _, rfl, by go_num, by omega, by have := hn.out; omega, hp5.out.drop 0⟩
          case measure => omega
        | zero =>
          obtain rfl : m = nk := by omega
          have e1 : ¬ (m : Int) < (m : Int) := by omega
          rw [List.take_of_length_le (by have := hnk.out; omega)] at hp
          replace hn := Lib.hid hn
          go_wp2
          go_ret
          exact ⟨_, rfl, by have := hp.out.drop 0; rw [hS.out]; rw [hn.out] at this ⊢; exact this⟩
def riseB (l : List ByteArray) : Bool := (List.range l.length).all fun i => decide (i = 0) || Op.bytesLess (l.getD (i - 1) ⟨#[]⟩).toList (l.getD i ⟨#[]⟩).toList
theorem riseB_no {l : List ByteArray} {j : Nat} {x y : ByteArray} (hx : l[j]? = some x) (hy : l[j + 1]? = some y) (h : Op.bytesLess x.toList y.toList = false) : riseB l = false := by
  unfold riseB
  rw [List.all_eq_false]
  exact ⟨j + 1, List.mem_range.2 (List.getElem?_eq_some_iff.1 hy).1, by rw [Nat.add_sub_cancel, List.getD_eq_getElem?_getD, List.getD_eq_getElem?_getD, hx, hy]; simpa using h⟩
theorem riseB_yes {l : List ByteArray} (h : ∀ j x y, l[j]? = some x → l[j + 1]? = some y → Op.bytesLess x.toList y.toList = true) : riseB l = true := by
  unfold riseB
  rw [List.all_eq_true]
  intro i hi
  have hi2 := List.mem_range.1 hi
  rcases i with _ | j
  · simp
  · rw [Nat.add_sub_cancel, List.getD_eq_getElem?_getD, List.getD_eq_getElem?_getD, List.getElem?_eq_getElem (by omega), List.getElem?_eq_getElem hi2]
    simp only [Option.getD_some, h j _ _ (List.getElem?_eq_getElem (by omega)) (List.getElem?_eq_getElem hi2)]
    simp
set_option maxHeartbeats 8000000 in
theorem rise_any (v : Value) (l : List ByteArray) (w : World) (h : Sl w v l.length (kyC l)) (hl : l.length ≤ 1000000) :
    Calls Try.prog 29 #[v] w fun e w' => e = .returned (.bool (riseB l)) ∧ Below w.heap.size w w' := by
  obtain ⟨a, ac, rfl, _, h1⟩ := h
  obtain ⟨n, hn⟩ : ∃ n, n = l.length := ⟨_, rfl⟩
  obtain ⟨R, hR⟩ : ∃ R, R = riseB l := ⟨_, rfl⟩
  rw [← hn] at h1 hl ⊢
  rw [← hR]
  replace h1 := Lib.hid h1; replace hn := Lib.hid hn; replace hR := Lib.hid hR
  go_enter Try.func29, Try.ntmps29
  go_upto_region 2 with fail
  go_loopg [3] (n - 1) (fun gm s3 wr => ∃ j : Nat, s3 = .int .i64 ((j : Int) + 1) ∧ (j + gm = n - 1) ∧ (∀ i x y, i < j → l[i]? = some x → l[i + 1]? = some y → Op.bytesLess x.toList y.toList = true) ∧ Below w.heap.size w wr)
  case atStart => exact ⟨0, rfl, by omega, (fun i x y h => absurd h (by omega)), Below.refl _ _⟩
  case round =>
    obtain ⟨j, rfl, hj, hok, hb⟩ := hrel
    replace hok := Lib.hid hok; replace hb := Lib.hid hb
    cases gk with
    | succ u =>
      have e1 : (j : Int) + 1 < (n : Int) := by omega
      have e2 : (0 : Int) ≤ (j : Int) := by omega
      have e3 : (0 : Int) ≤ (j : Int) + 1 := by omega
      have e4 : (j : Int) < (n : Int) := by omega
      have e5 : j + 1 < n := by omega
      have e6 : IntKind.i64.wrap (j : Int) = (j : Int) := IntWalk.i64_in _ (by omega)
      obtain ⟨bb, o, rfl, hr⟩ := h1.out.resolve_left (by omega)
      obtain ⟨x, hx⟩ : ∃ x, l[j]? = some x := ⟨_, List.getElem?_eq_getElem (by have := hn.out; omega)⟩
      obtain ⟨y, hy⟩ : ∃ y, l[j + 1]? = some y := ⟨_, List.getElem?_eq_getElem (by have := hn.out; omega)⟩
      have hS : ∀ W', Below w.heap.size w W' → W'.cell? ⟨bb, o + j, none⟩ = some (.string x) ∧ W'.cell? ⟨bb, o + (j + 1), none⟩ = some (.string y) := fun W' hb => ⟨(hb.cell hr.1).trans (hr.2 j _ (by simp [kyC, hx])), (hb.cell hr.1).trans (hr.2 (j + 1) _ (by simp [kyC, hy]))⟩
      replace hS := Lib.hid hS; replace hx := Lib.hid hx; replace hy := Lib.hid hy
      obtain ⟨c, hc⟩ : ∃ c, Op.bytesLess x.toList y.toList = c := ⟨_, rfl⟩
      clear hr
      go_upto_region 4 with fail
      have hb2 := Lib.hid hb.out.drew
      refine wp_region_noPanic ?_; refine wp_region_held_drew (S := (fun W' => W'.cell? ⟨bb, o + j, none⟩ = some (.string x) ∧ W'.cell? ⟨bb, o + (j + 1), none⟩ = some (.string y))) (by kernel_rfl) ?_ (fun hHeld => ?_); (focus ((try dsimp only); exact hS.out _ hb2.out; done)); (refine take_t (i := 0) (d := 10) (oi := _) (v := ?_) rfl rfl (by kernel_rfl) (by kernel_rfl) (by kernel_rfl) (by rfl) ?_ (by assumption) ?_; rotate_left; (focus (intro w0 hSw; (try dsimp only at hSw); go_simp; (try with_reducible rfl); done)); ((try simp only [Act.put, List.setIfInBounds_toArray]); (try dsimp only [List.set_cons_zero, List.set_cons_succ]))); (refine take_t (i := 1) (d := 11) (oi := _) (v := ?_) rfl rfl (by kernel_rfl) (by kernel_rfl) (by kernel_rfl) (by rfl) ?_ (by assumption) ?_; rotate_left; (focus (intro w0 hSw; (try dsimp only at hSw); go_simp; (try with_reducible rfl); done)); ((try simp only [Act.put, List.setIfInBounds_toArray]); (try dsimp only [List.set_cons_zero, List.set_cons_succ]))); (refine take_t (i := 2) (d := 12) (oi := _) (v := ?_) rfl rfl (by kernel_rfl) (by kernel_rfl) (by kernel_rfl) (by rfl) ?_ (by assumption) ?_; rotate_left; (focus (intro w0 hSw; (try dsimp only at hSw); go_simp; (try with_reducible rfl); done)); ((try simp only [Act.put, List.setIfInBounds_toArray]); (try dsimp only [List.set_cons_zero, List.set_cons_succ]))); (refine take_t (i := 3) (d := 13) (oi := _) (v := ?_) rfl rfl (by kernel_rfl) (by kernel_rfl) (by kernel_rfl) (by rfl) ?_ (by assumption) ?_; rotate_left; (focus (intro w0 hSw; (try dsimp only at hSw); go_simp; (try with_reducible rfl); done)); ((try simp only [Act.put, List.setIfInBounds_toArray]); (try dsimp only [List.set_cons_zero, List.set_cons_succ]))); (refine take_t (i := 4) (d := 14) (oi := _) (v := ?_) rfl rfl (by kernel_rfl) (by kernel_rfl) (by kernel_rfl) (by rfl) ?_ (by assumption) ?_; rotate_left; (focus (intro w0 hSw; (try dsimp only at hSw); go_simp; (try with_reducible rfl); done)); ((try simp only [Act.put, List.setIfInBounds_toArray]); (try dsimp only [List.set_cons_zero, List.set_cons_succ]))); (refine take_t (i := 5) (d := 15) (oi := _) (v := ?_) rfl rfl (by kernel_rfl) (by kernel_rfl) (by kernel_rfl) (by rfl) ?_ (by assumption) ?_; rotate_left; (focus (intro w0 hSw; (try dsimp only at hSw); go_simp; (try with_reducible rfl); done)); ((try simp only [Act.put, List.setIfInBounds_toArray]); (try dsimp only [List.set_cons_zero, List.set_cons_succ]))); (refine take_t (i := 6) (d := 16) (oi := _) (v := ?_) rfl rfl (by kernel_rfl) (by kernel_rfl) (by kernel_rfl) (by rfl) ?_ (by assumption) ?_; rotate_left; (focus (intro w0 hSw; (try dsimp only at hSw); go_simp; (try with_reducible rfl); done)); ((try simp only [Act.put, List.setIfInBounds_toArray]); (try dsimp only [List.set_cons_zero, List.set_cons_succ]))); (refine take_t (i := 7) (d := 17) (oi := _) (v := ?_) rfl rfl (by kernel_rfl) (by kernel_rfl) (by kernel_rfl) (by rfl) ?_ (by assumption) ?_; rotate_left; (focus (intro w0 hSw; (try dsimp only at hSw); go_simp; (try with_reducible rfl); done)); ((try simp only [Act.put, List.setIfInBounds_toArray]); (try dsimp only [List.set_cons_zero, List.set_cons_succ]))); (refine take_t (i := 8) (d := 18) (oi := _) (v := ?_) rfl rfl (by kernel_rfl) (by kernel_rfl) (by kernel_rfl) (by rfl) ?_ (by assumption) ?_; rotate_left; (focus (intro w0 hSw; (try dsimp only at hSw); go_simp; (try with_reducible rfl); done)); ((try simp only [Act.put, List.setIfInBounds_toArray]); (try dsimp only [List.set_cons_zero, List.set_cons_succ]))); (refine take_t (i := 9) (d := 19) (oi := _) (v := ?_) rfl rfl (by kernel_rfl) (by kernel_rfl) (by kernel_rfl) (by rfl) ?_ (by assumption) ?_; rotate_left; (focus (intro w0 hSw; (try dsimp only at hSw); go_simp; (try with_reducible rfl); done)); ((try simp only [Act.put, List.setIfInBounds_toArray]); (try dsimp only [List.set_cons_zero, List.set_cons_succ]))); refine wpAnyH_done (by kernel_rfl) ?_ _; refine NoPanic.normal ?_
      cases c with
      | true =>
        have hok2 : ∀ i x y, i < j + 1 → l[i]? = some x → l[i + 1]? = some y → Op.bytesLess x.toList y.toList = true := fun i x' y' hi h1 h2 => by
          by_cases hij : i = j
          · subst hij
            rw [hx.out] at h1; rw [hy.out] at h2
            injection h1 with h1; injection h2 with h2
            subst h1 h2
            exact hc
          · exact hok.out i x' y' (by omega) h1 h2
        replace hok2 := Lib.hid hok2
        clear hc
        go_wp2
        go_roundg u
        case rel => exact ⟨j + 1, by go_num, by omega, hok2.out, hb2.out⟩
        case measure => omega
      | false =>
        have hRf := hR.out.trans (riseB_no hx.out hy.out hc)
        replace hRf := Lib.hid hRf
        clear hc
        go_wp2
        go_ret
        exact ⟨by rw [hRf.out]; rfl, hb2.out⟩
    | zero =>
      have e1 : ¬ (j : Int) + 1 < (n : Int) := by omega
      have hRt : R = true := hR.out.trans (riseB_yes fun i x y h1 h2 => hok.out i x y (by have := (List.getElem?_eq_some_iff.1 h2).1; have := hn.out; omega) h1 h2)
      replace hRt := Lib.hid hRt
      go_wp2
      go_ret
      exact ⟨by rw [hRt.out]; rfl, hb.out⟩
end Go.Proofs.Ytcdgnhhciccoeaa.nod
