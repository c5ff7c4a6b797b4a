/- The keys of a page and whether a page may be, as the document has it (lodestoneref17.Keys, May). No condition but that there are few entries and pages. -/
import Derived.Test.YtcdgnhhciccoeaaNodB
import Derived.Test.YtcdgnhhciccoeaaDelM
namespace Go.Proofs.Ytcdgnhhciccoeaa.nod
open Go.RowKit
attribute [local go_sem ↓] Go.wp_at_zero Go.wp_at_succ
attribute [local go_sem] str_size
set_option linter.unusedVariables false
set_option linter.unusedSimpArgs false
set_option maxRecDepth 100000

set_option maxHeartbeats 8000000 in
theorem rkeys_any (ev kv : Value) (E : List En) (K : List Kd) (w : World) (he : Sl w ev E.length (enC E)) (hk : Sl w kv K.length (kdC K)) (hE : E.length ≤ 1000) (hK : K.length ≤ 1000) :
    Calls Try.prog 21 #[.agg #[ev, kv]] w fun e w' => ∃ v', e = .returned v' ∧ Hp w [] [.row 9 1 v' (E.length + K.length) (kyC (keysL E K))] w' := by
  have hp0 := ((Hp.none_ w []).alloc #[ev, kv] 25).rowLit #[] 9 1 0 (by decide) rfl
  obtain ⟨a, ac, rfl, _, h1⟩ := he
  obtain ⟨b, bc, rfl, _, h2⟩ := hk
  obtain ⟨ne, hne⟩ : ∃ n, n = E.length := ⟨_, rfl⟩
  obtain ⟨nk, hnk⟩ : ∃ n, n = K.length := ⟨_, rfl⟩
  obtain ⟨S, hS⟩ : ∃ S, S = kyC (keysL E K) := ⟨_, rfl⟩
  rw [← hne] at h1 hp0 hE ⊢
  rw [← hnk] at h2 hp0 hK ⊢
  rw [← hS]
  have hq : ∀ (u : World) o, (u.alloc o).heap.size = u.heap.size + 1 := fun u o => by simp
  simp only [hq] at hp0
  clear hq
  replace h1 := Lib.hid h1; replace h2 := Lib.hid h2; replace hne := Lib.hid hne; replace hnk := Lib.hid hnk; replace hp0 := Lib.hid hp0; replace hS := Lib.hid hS
  go_enter Try.func21, Try.ntmps21
  go_upto_region 2 with fail
  generalize (w.alloc _).alloc _ = W at hp0 ⊢
  generalize hq3 : w.heap.size + 1 = qs at hp0 ⊢
  generalize hq2 : w.heap.size = q at hp0 ⊢
  clear hq2 hq3
  have hp : Hid (Hp w [] [.row 9 1 (.slice (some ⟨qs, 0, none⟩) 0 0) 0 [], .box q #[.slice a ne ac, .slice b nk bc] 25] W) := hp0
  clear hp0
  have hcs : ∀ (rs : List Rs) (W' : World), Hp w [] rs W' → rs[1]? = some (.box q #[.slice a ne ac, .slice b nk bc] 25) → W'.cell? ⟨q, 0, none⟩ = some (.slice a ne ac) ∧ W'.cell? ⟨q, 1, none⟩ = some (.slice b nk bc) := fun rs W' h hi => ⟨(h.cell hi 0).trans rfl, (h.cell hi 1).trans rfl⟩
  replace hcs := Lib.hid hcs
  go_upto_region 3 with fail
  go_loopg [3, 4] ne (fun gm s3 s4 wr => ∃ (i : Nat) (ad : Option Addr) (cp : Nat), s3 = .slice ad i cp ∧ s4 = .int .i64 (i : Int) ∧ i + gm = ne ∧ Hp w [] [.row 9 1 (.slice ad i cp) i (kyC ((E.take i).map En.k)), .box q #[.slice a ne ac, .slice b nk bc] 25] wr)
  case atStart => exact ⟨0, _, 0, rfl, rfl, by omega, hp.out⟩
  case round =>
    clear hp
    obtain ⟨i, ad, cp, rfl, rfl, hi, hp⟩ := hrel
    replace hp := Lib.hid hp
    obtain ⟨c0, c1⟩ := hcs.out _ _ hp.out rfl
    cases gk with
    | succ u =>
      have e1 : (i : Int) < (ne : Int) := by omega
      have e2 : (0 : Int) ≤ (i : Int) := by omega
      obtain ⟨bb, o, rfl, hr⟩ := h1.out.resolve_left (by omega)
      obtain ⟨x, hx⟩ : ∃ x, E[i]? = some x := ⟨_, List.getElem?_eq_getElem (by have := hne.out; omega)⟩
      obtain ⟨xk, xv⟩ := x
      have d0 : wr.cell? ⟨bb, o + i * 2, none⟩ = some (.string xk) := (hp.out.bel.cell hr.1).trans (hr.elem0 En.c_len hx rfl)
      have hzs : kyC ((E.take i).map En.k) ++ [.string xk] = kyC ((E.take (i + 1)).map En.k) := by rw [List.take_add_one, hx]; simp [kyC]
      have hi2 : i < 100000000 := by omega
      replace hzs := Lib.hid hzs
      clear hr hx
      go_wp2_with (at_builtin; (refine wpList_append_hp rfl _ _ rfl Try.underlying51 sInfo rfl (by decide) (by decide) (hp.out.alloc_ (.cells #[.string xk] 9)) 0 rfl rfl _ _ [.string xk] rfl rfl (block_cells (heap_alloc_new _ _)) (by intro u hu; simp at hu; subst hu; rfl) hi2 ?_; intro v5 w5 h5 hv5; rw [hzs.out] at h5; have hp5 := Lib.hid h5; clear h5; obtain ⟨b5, cp5, rfl⟩ := hv5))
      go_roundg u
      case rel => exact ⟨i + 1, _, _, rfl, by go_num, by omega, hp5.out⟩
      case measure => omega
    | zero =>
      obtain rfl : i = ne := by omega
      have e1 : ¬ (i : Int) < (i : Int) := by omega
      rw [List.take_of_length_le (by have := hne.out; omega)] at hp
      go_upto_region 7 with fail
      clear c0 c1
      go_loopg [3, 5] nk (fun gm s3 s5 wr => ∃ (m n : Nat) (ad : Option Addr) (cp : Nat), s3 = .slice ad n cp ∧ s5 = .int .i64 (m : Int) ∧ m + gm = nk ∧ n = i + m ∧ Hp w [] [.row 9 1 (.slice ad n cp) n (kyC (E.map En.k ++ (K.take m).map Kd.lo)), .box q #[.slice a i ac, .slice b nk bc] 25] wr)
      case atStart => exact ⟨0, i, ad, cp, rfl, rfl, by omega, rfl, by simpa using hp.out⟩
      case round =>
        clear hp
        obtain ⟨m, n, ad, cp, rfl, rfl, hm, hn, hp⟩ := hrel
        replace hp := Lib.hid hp
        obtain ⟨c0, c1⟩ := hcs.out _ _ hp.out rfl
        cases gk with
        | succ u =>
          have e1 : (m : Int) < (nk : Int) := by omega
          have e2 : (0 : Int) ≤ (m : Int) := by omega
          obtain ⟨bb, o, rfl, hr⟩ := h2.out.resolve_left (by omega)
          obtain ⟨x, hx⟩ : ∃ x, K[m]? = some x := ⟨_, List.getElem?_eq_getElem (by have := hnk.out; omega)⟩
          obtain ⟨xl, xp, xs⟩ := x
          have d0 : wr.cell? ⟨bb, o + m * 3, none⟩ = some (.string xl) := (hp.out.bel.cell hr.1).trans (hr.elem0 Kd.c_len hx rfl)
          have hzs : kyC (E.map En.k ++ (K.take m).map Kd.lo) ++ [.string xl] = kyC (E.map En.k ++ (K.take (m + 1)).map Kd.lo) := by rw [List.take_add_one, hx]; simp [kyC]
          have hi2 : n < 100000000 := by omega
          replace hzs := Lib.hid hzs; replace hn := Lib.hid hn
          clear hr hx
          go_wp2_with (at_builtin; (refine wpList_append_hp rfl _ _ rfl Try.underlying51 sInfo rfl (by decide) (by decide) (hp.out.alloc_ (.cells #[.string xl] 9)) 0 rfl rfl _ _ [.string xl] rfl rfl (block_cells (heap_alloc_new _ _)) (by intro u hu; simp at hu; subst hu; rfl) hi2 ?_; intro v5 w5 h5 hv5; rw [hzs.out] at h5; have hp5 := Lib.hid h5; clear h5; obtain ⟨b5, cp5, rfl⟩ := hv5))
          go_roundg u
          case rel => exact ⟨m + 1, n + 1, _, _, rfl, by go_num, by omega, by have := hn.out; omega, hp5.out⟩
          case measure => omega
        | zero =>
          obtain rfl : m = nk := by omega
          have e1 : ¬ (m : Int) < (m : Int) := by omega
          rw [List.take_of_length_le (by have := hnk.out; omega)] at hp
          replace hn := Lib.hid hn
          go_wp2
          go_ret
          exact ⟨_, rfl, by have := hp.out.drop 1; rw [hS.out]; rw [hn.out] at this ⊢; exact this⟩
theorem leq_false {x y : ByteArray} (h : (Op.bytesLess y.toList x.toList || y.toList == x.toList) = false) : Op.bytesLess x.toList y.toList = true := by
  simp only [Bool.or_eq_false_iff, beq_eq_false_iff_ne] at h
  cases k : Op.bytesLess x.toList y.toList with
  | true => rfl
  | false => exact absurd (delta.less_total _ _ h.1 k) h.2
theorem leq_true {x y : ByteArray} (h : (Op.bytesLess y.toList x.toList || y.toList == x.toList) = true) : Op.bytesLess x.toList y.toList = false := by
  simp only [Bool.or_eq_true, beq_iff_eq] at h
  rcases h with h | h
  · cases k : Op.bytesLess x.toList y.toList with
    | false => rfl
    | true => have := delta.less_trans _ _ _ h k; rw [delta.less_irrefl] at this; cases this
  · rw [h]; exact delta.less_irrefl _
theorem keysL_get {E : List En} {K : List Kd} {i : Nat} {x : ByteArray} (h : (keysL E K)[i]? = some x) : (∃ e ∈ E, e.k = x) ∨ (∃ y ∈ K, y.lo = x) := by
  have := List.mem_of_getElem? h
  unfold keysL at this
  rcases List.mem_append.1 this with h | h
  · obtain ⟨e, he, hx⟩ := List.mem_map.1 h; exact Or.inl ⟨e, he, hx⟩
  · obtain ⟨e, he, hx⟩ := List.mem_map.1 h; exact Or.inr ⟨e, he, hx⟩
theorem may_long {E : List En} {K : List Kd} {i : Nat} {x : ByteArray} (h : (keysL E K)[i]? = some x) (hx : 96 < x.size) : mayN E K = false := by
  unfold mayN
  rcases keysL_get h with ⟨e, he, rfl⟩ | ⟨y, hy, rfl⟩
  · have : E.all enOk = false := List.all_eq_false.2 ⟨e, he, by unfold enOk; rw [decide_eq_false (show ¬ e.k.size ≤ 96 by omega)]; simp⟩
    rw [this]; simp
  · have : K.all kdOk = false := List.all_eq_false.2 ⟨y, hy, by unfold kdOk; rw [decide_eq_false (show ¬ y.lo.size ≤ 96 by omega)]; simp⟩
    rw [this]; simp
theorem may_fall {E : List En} {K : List Kd} {j : Nat} {x y : ByteArray} (hx : (keysL E K)[j]? = some x) (hy : (keysL E K)[j + 1]? = some y) (h : Op.bytesLess x.toList y.toList = false) : mayN E K = false := by
  unfold mayN; rw [riseB_no hx hy h]; simp
theorem may_ent {E : List En} {K : List Kd} {e : En} (he : e ∈ E) (h : e.k.toList.isEmpty = true ∨ 80 < e.v.size) : mayN E K = false := by
  have : E.all enOk = false := List.all_eq_false.2 ⟨e, he, by
    unfold enOk
    rcases h with h | h
    · rw [h]; simp
    · rw [decide_eq_false (show ¬ e.v.size ≤ 80 by omega)]; simp⟩
  unfold mayN; rw [this]; simp
theorem may_kid {E : List En} {K : List Kd} {x : Kd} (hx : x ∈ K) (h : x.pl < 0 ∨ 4096 ≤ x.pl ∨ x.sm.size ≠ 32) : mayN E K = false := by
  have : K.all kdOk = false := List.all_eq_false.2 ⟨x, hx, by
    unfold kdOk
    rcases h with h | h | h
    · rw [decide_eq_false (show ¬ 0 ≤ x.pl by omega)]; simp
    · rw [decide_eq_false (show ¬ x.pl < 4096 by omega)]; simp
    · rw [decide_eq_false h]; simp⟩
  unfold mayN; rw [this]; simp
theorem may_all {E : List En} {K : List Kd} (h1 : ∀ (i : Nat) (x : ByteArray), (keysL E K)[i]? = some x → x.size ≤ 96) (h2 : ∀ (j : Nat) (x y : ByteArray), (keysL E K)[j]? = some x → (keysL E K)[j + 1]? = some y → Op.bytesLess x.toList y.toList = true)
    (h3 : ∀ e ∈ E, e.k.toList.isEmpty = false ∧ e.v.size ≤ 80) (h4 : ∀ x ∈ K, 0 ≤ x.pl ∧ x.pl < 4096 ∧ x.sm.size = 32) : mayN E K = (decide (E.length = 0) != decide (K.length = 0)) := by
  have hk : ∀ x ∈ keysL E K, x.size ≤ 96 := fun x hx => by
    obtain ⟨i, hi, he⟩ := List.mem_iff_getElem.1 hx
    exact h1 i x (by rw [List.getElem?_eq_getElem hi, he])
  have a1 : E.all enOk = true := List.all_eq_true.2 fun e he => by
    have := h3 e he
    have h5 := hk e.k (by unfold keysL; exact List.mem_append_left _ (List.mem_map.2 ⟨e, he, rfl⟩))
    unfold enOk; rw [this.1, decide_eq_true h5, decide_eq_true this.2]; rfl
  have a2 : K.all kdOk = true := List.all_eq_true.2 fun x hx => by
    have := h4 x hx
    have h5 := hk x.lo (by unfold keysL; exact List.mem_append_right _ (List.mem_map.2 ⟨x, hx, rfl⟩))
    unfold kdOk; rw [decide_eq_true h5, decide_eq_true this.1, decide_eq_true this.2.1, decide_eq_true this.2.2]; rfl
  unfold mayN; rw [riseB_yes h2, a1, a2]; simp
set_option maxHeartbeats 32000000 in
theorem rmay_any (ev kv : Value) (E : List En) (K : List Kd) (w : World) (he : Sl w ev E.length (enC E)) (hk : Sl w kv K.length (kdC K)) (hE : E.length ≤ 1000) (hK : K.length ≤ 1000) :
    Calls Try.prog 8 #[.agg #[ev, kv]] w fun e w' => e = .returned (.bool (mayN E K)) ∧ Below w.heap.size w w' := by
  have hp0 := (Hp.none_ w []).alloc #[ev, kv] 25
  have k1 : ∀ W', Below w.heap.size w W' → Calls Try.prog 21 #[.agg #[ev, kv]] W' fun e w' => ∃ v', e = .returned v' ∧ Hp W' [] [.row 9 1 v' (E.length + K.length) (kyC (keysL E K))] w' := fun W' hb => rkeys_any ev kv E K W' (he.below hb) (hk.below hb) hE hK
  obtain ⟨R, hR⟩ : ∃ R, R = mayN E K := ⟨_, rfl⟩
  rw [← hR]
  obtain ⟨Y, hY⟩ : ∃ Y, Y = keysL E K := ⟨_, rfl⟩
  have hYl : Y.length = E.length + K.length := by rw [hY]; exact keysL_len E K
  have hfl : ∀ (i : Nat) (x : ByteArray), Y[i]? = some x → 96 < x.size → R = false := fun i x h hx => by rw [hR]; rw [hY] at h; exact may_long h hx
  have hfr : ∀ (i : Nat) (x y : ByteArray), Y[i]? = some x → Y[i + 1]? = some y → Op.bytesLess x.toList y.toList = false → R = false := fun i x y h h2 hx => by rw [hR]; rw [hY] at h h2; exact may_fall h h2 hx
  have hfE : ∀ e ∈ E, (e.k.toList.isEmpty = true ∨ 80 < e.v.size) → R = false := fun e he h => by rw [hR]; exact may_ent he h
  have hfK : ∀ x ∈ K, (x.pl < 0 ∨ 4096 ≤ x.pl ∨ x.sm.size ≠ 32) → R = false := fun x hx h => by rw [hR]; exact may_kid hx h
  have ht : (∀ (i : Nat) (x : ByteArray), Y[i]? = some x → x.size ≤ 96) → (∀ (j : Nat) (x y : ByteArray), Y[j]? = some x → Y[j + 1]? = some y → Op.bytesLess x.toList y.toList = true) → (∀ e ∈ E, e.k.toList.isEmpty = false ∧ e.v.size ≤ 80) → (∀ x ∈ K, 0 ≤ x.pl ∧ x.pl < 4096 ∧ x.sm.size = 32) → R = (decide (E.length = 0) != decide (K.length = 0)) := fun h1 h2 h3 h4 => by rw [hR]; rw [hY] at h1 h2; exact may_all h1 h2 h3 h4
  rw [← hY] at k1
  clear hR hY
  obtain ⟨a, ac, rfl, _, h1⟩ := he
  obtain ⟨b, bc, rfl, _, h2⟩ := hk
  obtain ⟨ne, hne⟩ : ∃ n, n = E.length := ⟨_, rfl⟩
  obtain ⟨nk, hnk⟩ : ∃ n, n = K.length := ⟨_, rfl⟩
  rw [← hne] at h1 hp0 hE ht k1 hYl ⊢
  rw [← hnk] at h2 hp0 hK ht k1 hYl ⊢
  obtain ⟨ny, hny⟩ : ∃ n, n = ne + nk := ⟨_, rfl⟩
  rw [← hny] at k1 hYl
  have hnyb : ny ≤ 2000 := by omega
  replace h1 := Lib.hid h1; replace h2 := Lib.hid h2; replace hne := Lib.hid hne; replace hnk := Lib.hid hnk; replace hp0 := Lib.hid hp0; replace k1 := Lib.hid k1; replace hfl := Lib.hid hfl; replace hfr := Lib.hid hfr; replace hfE := Lib.hid hfE; replace hfK := Lib.hid hfK; replace ht := Lib.hid ht; replace hYl := Lib.hid hYl; replace hny := Lib.hid hny
  go_enter Try.func8, Try.ntmps8
  go_upto_region 1 with fail
  generalize w.alloc _ = W at hp0 ⊢
  generalize hq2 : w.heap.size = q at hp0 ⊢
  clear hq2
  have hcs : ∀ (rs : List Rs) (i : Nat) (W' : World), Hp w [] rs W' → rs[i]? = some (.box q #[.slice a ne ac, .slice b nk bc] 25) → W'.cell? ⟨q, 0, none⟩ = some (.slice a ne ac) ∧ W'.cell? ⟨q, 1, none⟩ = some (.slice b nk bc) := fun rs i W' h hi => ⟨(h.cell hi 0).trans rfl, (h.cell hi 1).trans rfl⟩
  replace hcs := Lib.hid hcs
  obtain ⟨c0, c1⟩ := hcs.out _ 0 _ hp0.out rfl
  go_upto_region 3 with (go_at_call 21; (with_reducible refine (k1.out _ hp0.out.bel).mono ?_); rintro e w2 ⟨yv, rfl, h2'⟩; obtain ⟨ay, cy, rfl⟩ := rowShape (h2'.row (i := 0) rfl); have hp := Lib.hid (hp0.out.take h2'); clear h2')
  clear c0 c1 hp0 k1
  have hsl := hp.out.sl (i := 0) rfl (by omega)
  obtain ⟨_, _, hv, _, hzy⟩ := hsl
  injection hv with hv1 hv2 hv3
  subst hv1
  clear hv2 hv3
  have hpb : Hid (Hp w [] [.box q #[.slice a ne ac, .slice b nk bc] 25] w2) := hp.out.drop 0
  have hwb := Lib.hid hpb.out.bel
  have hq0 := hcs.out _ 0 _ hpb.out rfl
  have hql : q < w2.heap.size := hpb.out.lt (i := 0) rfl
  have hcs2 : ∀ W', Below w2.heap.size w2 W' → W'.cell? ⟨q, 0, none⟩ = some (.slice a ne ac) ∧ W'.cell? ⟨q, 1, none⟩ = some (.slice b nk bc) := fun W' hb => ⟨(hb.cell hql).trans hq0.1, (hb.cell hql).trans hq0.2⟩
  replace hcs2 := Lib.hid hcs2; replace hzy := Lib.hid hzy
  clear hcs hp hpb hql hq0
  go_loopg [4] ny (fun gm s4 wr => ∃ i : Nat, s4 = .int .i64 (i : Int) ∧ i + gm = ny ∧ (∀ (k : Nat) (x : ByteArray), k < i → Y[k]? = some x → x.size ≤ 96) ∧ (∀ (k : Nat) (x y : ByteArray), k + 1 < i → Y[k]? = some x → Y[k + 1]? = some y → Op.bytesLess x.toList y.toList = true) ∧ Below w2.heap.size w2 wr)
  case atStart => exact ⟨0, rfl, by omega, (fun k x h => absurd h (by omega)), (fun k x y h => absurd h (by omega)), Below.refl _ _⟩
  case round =>
    obtain ⟨i, rfl, hi, ok1, ok2, hb⟩ := hrel
    replace ok1 := Lib.hid ok1; replace ok2 := Lib.hid ok2; replace hb := Lib.hid hb
    cases gk with
    | succ u =>
      have e1 : (i : Int) < (ny : Int) := by omega
      have e2 : (0 : Int) ≤ (i : Int) := by omega
      obtain ⟨bb, o, rfl, hr⟩ := hzy.out.resolve_left (by omega)
      obtain ⟨x, hx⟩ : ∃ x, Y[i]? = some x := ⟨_, List.getElem?_eq_getElem (by have := hYl.out; omega)⟩
      have hSx : ∀ W', Below w2.heap.size w2 W' → W'.cell? ⟨bb, o + i, none⟩ = some (.string x) := fun W' hb => (hb.cell hr.1).trans (hr.2 i _ (by simp [kyC, hx]))
      have n1 : x.size ≤ 96 → ∀ (k : Nat) (z : ByteArray), k < i + 1 → Y[k]? = some z → z.size ≤ 96 := fun hs k z hk hz => by
        by_cases h : k = i
        · subst h; rw [hx] at hz; injection hz with hz; subst hz; exact hs
        · exact ok1.out k z (by omega) hz
      replace hSx := Lib.hid hSx; replace n1 := Lib.hid n1
      by_cases t1 : x.size ≤ 96
      · have t1' : ¬ (96 : Int) < (x.size : Int) := by omega
        have n1' := Lib.hid (n1.out t1)
        rcases i with _ | j
        · have n2 : ∀ (k : Nat) (x y : ByteArray), k + 1 < 0 + 1 → Y[k]? = some x → Y[k + 1]? = some y → Op.bytesLess x.toList y.toList = true := fun k _ _ h => absurd h (by omega)
          replace n2 := Lib.hid n2
          have g0 : ¬ (0 : Int) < ((0 : Nat) : Int) := by omega
          clear t1 hx hr
          go_upto_region 5 with fail
          have hb2 := Lib.hid hb.out.drew
          refine wp_region_noPanic ?_; refine wp_region_held_drew (S := (fun W' => W'.cell? ⟨bb, o, none⟩ = some (.string x))) (by kernel_rfl) ?_ (fun hHeld => ?_); (focus ((try dsimp only); exact hSx.out _ hb2.out; done)); (refine take_t (i := 0) (d := 16) (oi := _) (v := ?_) rfl rfl (by kernel_rfl) (by kernel_rfl) (by kernel_rfl) (by rfl) ?_ (by assumption) ?_; rotate_left; (focus (intro w0 hSw; (try dsimp only at hSw); go_simp; (try with_reducible rfl); done)); ((try simp only [Act.put, List.setIfInBounds_toArray]); (try dsimp only [List.set_cons_zero, List.set_cons_succ]))); (refine take_t (i := 1) (d := 17) (oi := _) (v := ?_) rfl rfl (by kernel_rfl) (by kernel_rfl) (by kernel_rfl) (by rfl) ?_ (by assumption) ?_; rotate_left; (focus (intro w0 hSw; (try dsimp only at hSw); go_simp; (try with_reducible rfl); done)); ((try simp only [Act.put, List.setIfInBounds_toArray]); (try dsimp only [List.set_cons_zero, List.set_cons_succ]))); (refine take_t (i := 2) (d := 18) (oi := _) (v := ?_) rfl rfl (by kernel_rfl) (by kernel_rfl) (by kernel_rfl) (by rfl) ?_ (by assumption) ?_; rotate_left; (focus (intro w0 hSw; (try dsimp only at hSw); go_simp; (try with_reducible rfl); done)); ((try simp only [Act.put, List.setIfInBounds_toArray]); (try dsimp only [List.set_cons_zero, List.set_cons_succ]))); (refine take_t (i := 3) (d := 19) (oi := _) (v := ?_) rfl rfl (by kernel_rfl) (by kernel_rfl) (by kernel_rfl) (by rfl) ?_ (by assumption) ?_; rotate_left; (focus (intro w0 hSw; (try dsimp only at hSw); go_simp; (try with_reducible rfl); done)); ((try simp only [Act.put, List.setIfInBounds_toArray]); (try dsimp only [List.set_cons_zero, List.set_cons_succ]))); (refine take_t (i := 4) (d := 20) (oi := _) (v := ?_) rfl rfl (by kernel_rfl) (by kernel_rfl) (by kernel_rfl) (by rfl) ?_ (by assumption) ?_; rotate_left; (focus (intro w0 hSw; (try dsimp only at hSw); go_simp; (try with_reducible rfl); done)); ((try simp only [Act.put, List.setIfInBounds_toArray]); (try dsimp only [List.set_cons_zero, List.set_cons_succ]))); (refine take_t (i := 5) (d := 21) (oi := _) (v := ?_) rfl rfl (by kernel_rfl) (by kernel_rfl) (by kernel_rfl) (by rfl) ?_ (by assumption) ?_; rotate_left; (focus (intro w0 hSw; (try dsimp only at hSw); go_simp; (try with_reducible rfl); done)); ((try simp only [Act.put, List.setIfInBounds_toArray]); (try dsimp only [List.set_cons_zero, List.set_cons_succ]))); (refine take_t (i := 6) (d := 22) (oi := _) (v := ?_) rfl rfl (by kernel_rfl) (by kernel_rfl) (by kernel_rfl) (by rfl) ?_ (by assumption) ?_; rotate_left; (focus (intro w0 hSw; (try dsimp only at hSw); go_simp; (try with_reducible rfl); done)); ((try simp only [Act.put, List.setIfInBounds_toArray]); (try dsimp only [List.set_cons_zero, List.set_cons_succ]))); (refine take_t (i := 7) (d := 23) (oi := _) (v := ?_) rfl rfl (by kernel_rfl) (by kernel_rfl) (by kernel_rfl) (by rfl) ?_ (by assumption) ?_; rotate_left; (focus (intro w0 hSw; (try dsimp only at hSw); go_simp; (try with_reducible rfl); done)); ((try simp only [Act.put, List.setIfInBounds_toArray]); (try dsimp only [List.set_cons_zero, List.set_cons_succ]))); (refine take_t (i := 8) (d := 24) (oi := _) (v := ?_) rfl rfl (by kernel_rfl) (by kernel_rfl) (by kernel_rfl) (by rfl) ?_ (by assumption) ?_; rotate_left; (focus (intro w0 hSw; (try dsimp only at hSw); go_simp; (try with_reducible rfl); done)); ((try simp only [Act.put, List.setIfInBounds_toArray]); (try dsimp only [List.set_cons_zero, List.set_cons_succ]))); (refine take_t (i := 9) (d := 25) (oi := _) (v := ?_) rfl rfl (by kernel_rfl) (by kernel_rfl) (by kernel_rfl) (by rfl) ?_ (by assumption) ?_; rotate_left; (focus (intro w0 hSw; (try dsimp only at hSw); go_simp; (try with_reducible rfl); done)); ((try simp only [Act.put, List.setIfInBounds_toArray]); (try dsimp only [List.set_cons_zero, List.set_cons_succ]))); (refine take_u (i := 10) (d := 26) (oi := _) rfl rfl (by kernel_rfl) (by kernel_rfl) (by kernel_rfl) (by rfl) (by assumption) ?_; ((try simp only [Act.put, List.setIfInBounds_toArray]); (try dsimp only [List.set_cons_zero, List.set_cons_succ]))); (refine take_u (i := 11) (d := 27) (oi := _) rfl rfl (by kernel_rfl) (by kernel_rfl) (by kernel_rfl) (by rfl) (by assumption) ?_; ((try simp only [Act.put, List.setIfInBounds_toArray]); (try dsimp only [List.set_cons_zero, List.set_cons_succ]))); (refine take_u (i := 12) (d := 28) (oi := _) rfl rfl (by kernel_rfl) (by kernel_rfl) (by kernel_rfl) (by rfl) (by assumption) ?_; ((try simp only [Act.put, List.setIfInBounds_toArray]); (try dsimp only [List.set_cons_zero, List.set_cons_succ]))); (refine take_u (i := 13) (d := 29) (oi := _) rfl rfl (by kernel_rfl) (by kernel_rfl) (by kernel_rfl) (by rfl) (by assumption) ?_; ((try simp only [Act.put, List.setIfInBounds_toArray]); (try dsimp only [List.set_cons_zero, List.set_cons_succ]))); (refine take_u (i := 14) (d := 30) (oi := _) rfl rfl (by kernel_rfl) (by kernel_rfl) (by kernel_rfl) (by rfl) (by assumption) ?_; ((try simp only [Act.put, List.setIfInBounds_toArray]); (try dsimp only [List.set_cons_zero, List.set_cons_succ]))); (refine take_u (i := 15) (d := 31) (oi := _) rfl rfl (by kernel_rfl) (by kernel_rfl) (by kernel_rfl) (by rfl) (by assumption) ?_; ((try simp only [Act.put, List.setIfInBounds_toArray]); (try dsimp only [List.set_cons_zero, List.set_cons_succ]))); (refine take_u (i := 16) (d := 32) (oi := _) rfl rfl (by kernel_rfl) (by kernel_rfl) (by kernel_rfl) (by rfl) (by assumption) ?_; ((try simp only [Act.put, List.setIfInBounds_toArray]); (try dsimp only [List.set_cons_zero, List.set_cons_succ]))); (refine take_u (i := 17) (d := 33) (oi := _) rfl rfl (by kernel_rfl) (by kernel_rfl) (by kernel_rfl) (by rfl) (by assumption) ?_; ((try simp only [Act.put, List.setIfInBounds_toArray]); (try dsimp only [List.set_cons_zero, List.set_cons_succ]))); (refine take_u (i := 18) (d := 34) (oi := _) rfl rfl (by kernel_rfl) (by kernel_rfl) (by kernel_rfl) (by rfl) (by assumption) ?_; ((try simp only [Act.put, List.setIfInBounds_toArray]); (try dsimp only [List.set_cons_zero, List.set_cons_succ]))); (refine take_u (i := 19) (d := 35) (oi := _) rfl rfl (by kernel_rfl) (by kernel_rfl) (by kernel_rfl) (by rfl) (by assumption) ?_; ((try simp only [Act.put, List.setIfInBounds_toArray]); (try dsimp only [List.set_cons_zero, List.set_cons_succ]))); (refine take_t (i := 20) (d := 36) (oi := _) (v := ?_) rfl rfl (by kernel_rfl) (by kernel_rfl) (by kernel_rfl) (by rfl) ?_ (by assumption) ?_; rotate_left; (focus (intro w0 hSw; (try dsimp only at hSw); go_simp; (try with_reducible rfl); done)); ((try simp only [Act.put, List.setIfInBounds_toArray]); (try dsimp only [List.set_cons_zero, List.set_cons_succ]))); (refine take_t (i := 21) (d := 37) (oi := _) (v := ?_) rfl rfl (by kernel_rfl) (by kernel_rfl) (by kernel_rfl) (by rfl) ?_ (by assumption) ?_; rotate_left; (focus (intro w0 hSw; (try dsimp only at hSw); go_simp; (try with_reducible rfl); done)); ((try simp only [Act.put, List.setIfInBounds_toArray]); (try dsimp only [List.set_cons_zero, List.set_cons_succ]))); refine wpAnyH_done (by kernel_rfl) ?_ _; refine NoPanic.normal ?_
          go_wp2
          go_roundg u
          case rel => exact ⟨0 + 1, by go_num, by omega, n1'.out, n2.out, hb2.out⟩
          case measure => omega
        · obtain ⟨y, hy⟩ : ∃ y, Y[j]? = some y := ⟨_, List.getElem?_eq_getElem (by have := hYl.out; omega)⟩
          have hSy : ∀ W', Below w2.heap.size w2 W' → W'.cell? ⟨bb, o + j, none⟩ = some (.string y) := fun W' hb => (hb.cell hr.1).trans (hr.2 j _ (by simp [kyC, hy]))
          have n2 : Op.bytesLess y.toList x.toList = true → ∀ (k : Nat) (x y : ByteArray), k + 1 < j + 1 + 1 → Y[k]? = some x → Y[k + 1]? = some y → Op.bytesLess x.toList y.toList = true := fun hl k x' y' hk h1 h2 => by
            by_cases h : k = j
            · subst h; rw [hy] at h1; rw [hx] at h2; injection h1 with h1; injection h2 with h2; subst h1 h2; exact hl
            · exact ok2.out k x' y' (by omega) h1 h2
          have n3 : Op.bytesLess y.toList x.toList = false → R = false := fun h => hfr.out j y x hy hx h
          have f1 : (j : Int) + 1 < (ny : Int) := by omega
          have f2 : (0 : Int) ≤ (j : Int) + 1 := by omega
          have f3 : (0 : Int) < (j : Int) + 1 := by omega
          have f4 : (0 : Int) ≤ (j : Int) := by omega
          have f5 : (j : Int) < (ny : Int) := by omega
          have f6 : IntKind.i64.wrap (j : Int) = (j : Int) := IntWalk.i64_in _ (by omega)
          have f7 : j + 1 < ny := by omega
          obtain ⟨c, hc⟩ : ∃ c, (Op.bytesLess x.toList y.toList || x.toList == y.toList) = c := ⟨_, rfl⟩
          replace hSy := Lib.hid hSy; replace n2 := Lib.hid n2; replace n3 := Lib.hid n3
          clear t1 hx hy hr
          go_upto_region 5 with fail
          have hb2 := Lib.hid hb.out.drew
          refine wp_region_noPanic ?_; refine wp_region_held_drew (S := (fun W' => W'.cell? ⟨bb, o + (j + 1), none⟩ = some (.string x) ∧ W'.cell? ⟨bb, o + j, none⟩ = some (.string y))) (by kernel_rfl) ?_ (fun hHeld => ?_); (focus ((try dsimp only); exact ⟨hSx.out _ hb2.out, hSy.out _ hb2.out⟩; done)); (refine take_t (i := 0) (d := 16) (oi := _) (v := ?_) rfl rfl (by kernel_rfl) (by kernel_rfl) (by kernel_rfl) (by rfl) ?_ (by assumption) ?_; rotate_left; (focus (intro w0 hSw; (try dsimp only at hSw); go_simp; (try with_reducible rfl); done)); ((try simp only [Act.put, List.setIfInBounds_toArray]); (try dsimp only [List.set_cons_zero, List.set_cons_succ]))); (refine take_t (i := 1) (d := 17) (oi := _) (v := ?_) rfl rfl (by kernel_rfl) (by kernel_rfl) (by kernel_rfl) (by rfl) ?_ (by assumption) ?_; rotate_left; (focus (intro w0 hSw; (try dsimp only at hSw); go_simp; (try with_reducible rfl); done)); ((try simp only [Act.put, List.setIfInBounds_toArray]); (try dsimp only [List.set_cons_zero, List.set_cons_succ]))); (refine take_t (i := 2) (d := 18) (oi := _) (v := ?_) rfl rfl (by kernel_rfl) (by kernel_rfl) (by kernel_rfl) (by rfl) ?_ (by assumption) ?_; rotate_left; (focus (intro w0 hSw; (try dsimp only at hSw); go_simp; (try with_reducible rfl); done)); ((try simp only [Act.put, List.setIfInBounds_toArray]); (try dsimp only [List.set_cons_zero, List.set_cons_succ]))); (refine take_t (i := 3) (d := 19) (oi := _) (v := ?_) rfl rfl (by kernel_rfl) (by kernel_rfl) (by kernel_rfl) (by rfl) ?_ (by assumption) ?_; rotate_left; (focus (intro w0 hSw; (try dsimp only at hSw); go_simp; (try with_reducible rfl); done)); ((try simp only [Act.put, List.setIfInBounds_toArray]); (try dsimp only [List.set_cons_zero, List.set_cons_succ]))); (refine take_t (i := 4) (d := 20) (oi := _) (v := ?_) rfl rfl (by kernel_rfl) (by kernel_rfl) (by kernel_rfl) (by rfl) ?_ (by assumption) ?_; rotate_left; (focus (intro w0 hSw; (try dsimp only at hSw); go_simp; (try with_reducible rfl); done)); ((try simp only [Act.put, List.setIfInBounds_toArray]); (try dsimp only [List.set_cons_zero, List.set_cons_succ]))); (refine take_t (i := 5) (d := 21) (oi := _) (v := ?_) rfl rfl (by kernel_rfl) (by kernel_rfl) (by kernel_rfl) (by rfl) ?_ (by assumption) ?_; rotate_left; (focus (intro w0 hSw; (try dsimp only at hSw); go_simp; (try with_reducible rfl); done)); ((try simp only [Act.put, List.setIfInBounds_toArray]); (try dsimp only [List.set_cons_zero, List.set_cons_succ]))); (refine take_t (i := 6) (d := 22) (oi := _) (v := ?_) rfl rfl (by kernel_rfl) (by kernel_rfl) (by kernel_rfl) (by rfl) ?_ (by assumption) ?_; rotate_left; (focus (intro w0 hSw; (try dsimp only at hSw); go_simp; (try with_reducible rfl); done)); ((try simp only [Act.put, List.setIfInBounds_toArray]); (try dsimp only [List.set_cons_zero, List.set_cons_succ]))); (refine take_t (i := 7) (d := 23) (oi := _) (v := ?_) rfl rfl (by kernel_rfl) (by kernel_rfl) (by kernel_rfl) (by rfl) ?_ (by assumption) ?_; rotate_left; (focus (intro w0 hSw; (try dsimp only at hSw); go_simp; (try with_reducible rfl); done)); ((try simp only [Act.put, List.setIfInBounds_toArray]); (try dsimp only [List.set_cons_zero, List.set_cons_succ]))); (refine take_t (i := 8) (d := 24) (oi := _) (v := ?_) rfl rfl (by kernel_rfl) (by kernel_rfl) (by kernel_rfl) (by rfl) ?_ (by assumption) ?_; rotate_left; (focus (intro w0 hSw; (try dsimp only at hSw); go_simp; (try with_reducible rfl); done)); ((try simp only [Act.put, List.setIfInBounds_toArray]); (try dsimp only [List.set_cons_zero, List.set_cons_succ]))); (refine take_t (i := 9) (d := 25) (oi := _) (v := ?_) rfl rfl (by kernel_rfl) (by kernel_rfl) (by kernel_rfl) (by rfl) ?_ (by assumption) ?_; rotate_left; (focus (intro w0 hSw; (try dsimp only at hSw); go_simp; (try with_reducible rfl); done)); ((try simp only [Act.put, List.setIfInBounds_toArray]); (try dsimp only [List.set_cons_zero, List.set_cons_succ]))); (refine take_t (i := 10) (d := 26) (oi := _) (v := ?_) rfl rfl (by kernel_rfl) (by kernel_rfl) (by kernel_rfl) (by rfl) ?_ (by assumption) ?_; rotate_left; (focus (intro w0 hSw; (try dsimp only at hSw); go_simp; (try with_reducible rfl); done)); ((try simp only [Act.put, List.setIfInBounds_toArray]); (try dsimp only [List.set_cons_zero, List.set_cons_succ]))); (refine take_t (i := 11) (d := 27) (oi := _) (v := ?_) rfl rfl (by kernel_rfl) (by kernel_rfl) (by kernel_rfl) (by rfl) ?_ (by assumption) ?_; rotate_left; (focus (intro w0 hSw; (try dsimp only at hSw); go_simp; (try with_reducible rfl); done)); ((try simp only [Act.put, List.setIfInBounds_toArray]); (try dsimp only [List.set_cons_zero, List.set_cons_succ]))); (refine take_t (i := 12) (d := 28) (oi := _) (v := ?_) rfl rfl (by kernel_rfl) (by kernel_rfl) (by kernel_rfl) (by rfl) ?_ (by assumption) ?_; rotate_left; (focus (intro w0 hSw; (try dsimp only at hSw); go_simp; (try with_reducible rfl); done)); ((try simp only [Act.put, List.setIfInBounds_toArray]); (try dsimp only [List.set_cons_zero, List.set_cons_succ]))); (refine take_t (i := 13) (d := 29) (oi := _) (v := ?_) rfl rfl (by kernel_rfl) (by kernel_rfl) (by kernel_rfl) (by rfl) ?_ (by assumption) ?_; rotate_left; (focus (intro w0 hSw; (try dsimp only at hSw); go_simp; (try with_reducible rfl); done)); ((try simp only [Act.put, List.setIfInBounds_toArray]); (try dsimp only [List.set_cons_zero, List.set_cons_succ]))); (refine take_t (i := 14) (d := 30) (oi := _) (v := ?_) rfl rfl (by kernel_rfl) (by kernel_rfl) (by kernel_rfl) (by rfl) ?_ (by assumption) ?_; rotate_left; (focus (intro w0 hSw; (try dsimp only at hSw); go_simp; (try with_reducible rfl); done)); ((try simp only [Act.put, List.setIfInBounds_toArray]); (try dsimp only [List.set_cons_zero, List.set_cons_succ]))); (refine take_t (i := 15) (d := 31) (oi := _) (v := ?_) rfl rfl (by kernel_rfl) (by kernel_rfl) (by kernel_rfl) (by rfl) ?_ (by assumption) ?_; rotate_left; (focus (intro w0 hSw; (try dsimp only at hSw); go_simp; (try with_reducible rfl); done)); ((try simp only [Act.put, List.setIfInBounds_toArray]); (try dsimp only [List.set_cons_zero, List.set_cons_succ]))); (refine take_t (i := 16) (d := 32) (oi := _) (v := ?_) rfl rfl (by kernel_rfl) (by kernel_rfl) (by kernel_rfl) (by rfl) ?_ (by assumption) ?_; rotate_left; (focus (intro w0 hSw; (try dsimp only at hSw); go_simp; (try with_reducible rfl); done)); ((try simp only [Act.put, List.setIfInBounds_toArray]); (try dsimp only [List.set_cons_zero, List.set_cons_succ]))); (refine take_t (i := 17) (d := 33) (oi := _) (v := ?_) rfl rfl (by kernel_rfl) (by kernel_rfl) (by kernel_rfl) (by rfl) ?_ (by assumption) ?_; rotate_left; (focus (intro w0 hSw; (try dsimp only at hSw); go_simp; (try with_reducible rfl); done)); ((try simp only [Act.put, List.setIfInBounds_toArray]); (try dsimp only [List.set_cons_zero, List.set_cons_succ]))); (refine take_t (i := 18) (d := 34) (oi := _) (v := ?_) rfl rfl (by kernel_rfl) (by kernel_rfl) (by kernel_rfl) (by rfl) ?_ (by assumption) ?_; rotate_left; (focus (intro w0 hSw; (try dsimp only at hSw); go_simp; (try with_reducible rfl); done)); ((try simp only [Act.put, List.setIfInBounds_toArray]); (try dsimp only [List.set_cons_zero, List.set_cons_succ]))); (refine take_t (i := 19) (d := 35) (oi := _) (v := ?_) rfl rfl (by kernel_rfl) (by kernel_rfl) (by kernel_rfl) (by rfl) ?_ (by assumption) ?_; rotate_left; (focus (intro w0 hSw; (try dsimp only at hSw); go_simp; (try with_reducible rfl); done)); ((try simp only [Act.put, List.setIfInBounds_toArray]); (try dsimp only [List.set_cons_zero, List.set_cons_succ]))); (refine take_t (i := 20) (d := 36) (oi := _) (v := ?_) rfl rfl (by kernel_rfl) (by kernel_rfl) (by kernel_rfl) (by rfl) ?_ (by assumption) ?_; rotate_left; (focus (intro w0 hSw; (try dsimp only at hSw); go_simp; (try with_reducible rfl); done)); ((try simp only [Act.put, List.setIfInBounds_toArray]); (try dsimp only [List.set_cons_zero, List.set_cons_succ]))); (refine take_t (i := 21) (d := 37) (oi := _) (v := ?_) rfl rfl (by kernel_rfl) (by kernel_rfl) (by kernel_rfl) (by rfl) ?_ (by assumption) ?_; rotate_left; (focus (intro w0 hSw; (try dsimp only at hSw); go_simp; (try with_reducible rfl); done)); ((try simp only [Act.put, List.setIfInBounds_toArray]); (try dsimp only [List.set_cons_zero, List.set_cons_succ]))); refine wpAnyH_done (by kernel_rfl) ?_ _; refine NoPanic.normal ?_
          cases c with
          | true =>
            have hRf := Lib.hid (n3.out (leq_true hc))
            clear hc
            go_wp2
            go_ret
            exact ⟨by rw [hRf.out]; rfl, belowCont hwb.out hb2.out⟩
          | false =>
            have n2' := Lib.hid (n2.out (leq_false hc))
            clear hc
            go_wp2
            go_roundg u
            case rel => exact ⟨j + 1 + 1, by go_num, by omega, n1'.out, n2'.out, hb2.out⟩
            case measure => omega
      · have t1' : (96 : Int) < (x.size : Int) := by omega
        have hRf := Lib.hid (hfl.out i x hx (by omega))
        clear t1 hx hr
        go_upto_region 5 with fail
        have hb2 := Lib.hid hb.out.drew
        refine wp_region_noPanic ?_; refine wp_region_held_drew (S := (fun W' => W'.cell? ⟨bb, o + i, none⟩ = some (.string x))) (by kernel_rfl) ?_ (fun hHeld => ?_); (focus ((try dsimp only); exact hSx.out _ hb2.out; done)); (refine take_t (i := 0) (d := 16) (oi := _) (v := ?_) rfl rfl (by kernel_rfl) (by kernel_rfl) (by kernel_rfl) (by rfl) ?_ (by assumption) ?_; rotate_left; (focus (intro w0 hSw; (try dsimp only at hSw); go_simp; (try with_reducible rfl); done)); ((try simp only [Act.put, List.setIfInBounds_toArray]); (try dsimp only [List.set_cons_zero, List.set_cons_succ]))); (refine take_t (i := 1) (d := 17) (oi := _) (v := ?_) rfl rfl (by kernel_rfl) (by kernel_rfl) (by kernel_rfl) (by rfl) ?_ (by assumption) ?_; rotate_left; (focus (intro w0 hSw; (try dsimp only at hSw); go_simp; (try with_reducible rfl); done)); ((try simp only [Act.put, List.setIfInBounds_toArray]); (try dsimp only [List.set_cons_zero, List.set_cons_succ]))); (refine take_t (i := 2) (d := 18) (oi := _) (v := ?_) rfl rfl (by kernel_rfl) (by kernel_rfl) (by kernel_rfl) (by rfl) ?_ (by assumption) ?_; rotate_left; (focus (intro w0 hSw; (try dsimp only at hSw); go_simp; (try with_reducible rfl); done)); ((try simp only [Act.put, List.setIfInBounds_toArray]); (try dsimp only [List.set_cons_zero, List.set_cons_succ]))); (refine take_t (i := 3) (d := 19) (oi := _) (v := ?_) rfl rfl (by kernel_rfl) (by kernel_rfl) (by kernel_rfl) (by rfl) ?_ (by assumption) ?_; rotate_left; (focus (intro w0 hSw; (try dsimp only at hSw); go_simp; (try with_reducible rfl); done)); ((try simp only [Act.put, List.setIfInBounds_toArray]); (try dsimp only [List.set_cons_zero, List.set_cons_succ]))); (refine take_t (i := 4) (d := 20) (oi := _) (v := ?_) rfl rfl (by kernel_rfl) (by kernel_rfl) (by kernel_rfl) (by rfl) ?_ (by assumption) ?_; rotate_left; (focus (intro w0 hSw; (try dsimp only at hSw); go_simp; (try with_reducible rfl); done)); ((try simp only [Act.put, List.setIfInBounds_toArray]); (try dsimp only [List.set_cons_zero, List.set_cons_succ]))); (refine take_t (i := 5) (d := 21) (oi := _) (v := ?_) rfl rfl (by kernel_rfl) (by kernel_rfl) (by kernel_rfl) (by rfl) ?_ (by assumption) ?_; rotate_left; (focus (intro w0 hSw; (try dsimp only at hSw); go_simp; (try with_reducible rfl); done)); ((try simp only [Act.put, List.setIfInBounds_toArray]); (try dsimp only [List.set_cons_zero, List.set_cons_succ]))); (refine take_t (i := 6) (d := 22) (oi := _) (v := ?_) rfl rfl (by kernel_rfl) (by kernel_rfl) (by kernel_rfl) (by rfl) ?_ (by assumption) ?_; rotate_left; (focus (intro w0 hSw; (try dsimp only at hSw); go_simp; (try with_reducible rfl); done)); ((try simp only [Act.put, List.setIfInBounds_toArray]); (try dsimp only [List.set_cons_zero, List.set_cons_succ]))); (refine take_u (i := 7) (d := 23) (oi := _) rfl rfl (by kernel_rfl) (by kernel_rfl) (by kernel_rfl) (by rfl) (by assumption) ?_; ((try simp only [Act.put, List.setIfInBounds_toArray]); (try dsimp only [List.set_cons_zero, List.set_cons_succ]))); (refine take_u (i := 8) (d := 24) (oi := _) rfl rfl (by kernel_rfl) (by kernel_rfl) (by kernel_rfl) (by rfl) (by assumption) ?_; ((try simp only [Act.put, List.setIfInBounds_toArray]); (try dsimp only [List.set_cons_zero, List.set_cons_succ]))); (refine take_u (i := 9) (d := 25) (oi := _) rfl rfl (by kernel_rfl) (by kernel_rfl) (by kernel_rfl) (by rfl) (by assumption) ?_; ((try simp only [Act.put, List.setIfInBounds_toArray]); (try dsimp only [List.set_cons_zero, List.set_cons_succ]))); (refine take_u (i := 10) (d := 26) (oi := _) rfl rfl (by kernel_rfl) (by kernel_rfl) (by kernel_rfl) (by rfl) (by assumption) ?_; ((try simp only [Act.put, List.setIfInBounds_toArray]); (try dsimp only [List.set_cons_zero, List.set_cons_succ]))); (refine take_u (i := 11) (d := 27) (oi := _) rfl rfl (by kernel_rfl) (by kernel_rfl) (by kernel_rfl) (by rfl) (by assumption) ?_; ((try simp only [Act.put, List.setIfInBounds_toArray]); (try dsimp only [List.set_cons_zero, List.set_cons_succ]))); (refine take_u (i := 12) (d := 28) (oi := _) rfl rfl (by kernel_rfl) (by kernel_rfl) (by kernel_rfl) (by rfl) (by assumption) ?_; ((try simp only [Act.put, List.setIfInBounds_toArray]); (try dsimp only [List.set_cons_zero, List.set_cons_succ]))); (refine take_u (i := 13) (d := 29) (oi := _) rfl rfl (by kernel_rfl) (by kernel_rfl) (by kernel_rfl) (by rfl) (by assumption) ?_; ((try simp only [Act.put, List.setIfInBounds_toArray]); (try dsimp only [List.set_cons_zero, List.set_cons_succ]))); (refine take_u (i := 14) (d := 30) (oi := _) rfl rfl (by kernel_rfl) (by kernel_rfl) (by kernel_rfl) (by rfl) (by assumption) ?_; ((try simp only [Act.put, List.setIfInBounds_toArray]); (try dsimp only [List.set_cons_zero, List.set_cons_succ]))); (refine take_u (i := 15) (d := 31) (oi := _) rfl rfl (by kernel_rfl) (by kernel_rfl) (by kernel_rfl) (by rfl) (by assumption) ?_; ((try simp only [Act.put, List.setIfInBounds_toArray]); (try dsimp only [List.set_cons_zero, List.set_cons_succ]))); (refine take_u (i := 16) (d := 32) (oi := _) rfl rfl (by kernel_rfl) (by kernel_rfl) (by kernel_rfl) (by rfl) (by assumption) ?_; ((try simp only [Act.put, List.setIfInBounds_toArray]); (try dsimp only [List.set_cons_zero, List.set_cons_succ]))); (refine take_u (i := 17) (d := 33) (oi := _) rfl rfl (by kernel_rfl) (by kernel_rfl) (by kernel_rfl) (by rfl) (by assumption) ?_; ((try simp only [Act.put, List.setIfInBounds_toArray]); (try dsimp only [List.set_cons_zero, List.set_cons_succ]))); (refine take_u (i := 18) (d := 34) (oi := _) rfl rfl (by kernel_rfl) (by kernel_rfl) (by kernel_rfl) (by rfl) (by assumption) ?_; ((try simp only [Act.put, List.setIfInBounds_toArray]); (try dsimp only [List.set_cons_zero, List.set_cons_succ]))); (refine take_u (i := 19) (d := 35) (oi := _) rfl rfl (by kernel_rfl) (by kernel_rfl) (by kernel_rfl) (by rfl) (by assumption) ?_; ((try simp only [Act.put, List.setIfInBounds_toArray]); (try dsimp only [List.set_cons_zero, List.set_cons_succ]))); (refine take_u (i := 20) (d := 36) (oi := _) rfl rfl (by kernel_rfl) (by kernel_rfl) (by kernel_rfl) (by rfl) (by assumption) ?_; ((try simp only [Act.put, List.setIfInBounds_toArray]); (try dsimp only [List.set_cons_zero, List.set_cons_succ]))); (refine take_t (i := 21) (d := 37) (oi := _) (v := ?_) rfl rfl (by kernel_rfl) (by kernel_rfl) (by kernel_rfl) (by rfl) ?_ (by assumption) ?_; rotate_left; (focus (intro w0 hSw; (try dsimp only at hSw); go_simp; (try with_reducible rfl); done)); ((try simp only [Act.put, List.setIfInBounds_toArray]); (try dsimp only [List.set_cons_zero, List.set_cons_succ]))); refine wpAnyH_done (by kernel_rfl) ?_ _; refine NoPanic.normal ?_
        go_wp2
        go_ret
        exact ⟨by rw [hRf.out]; rfl, belowCont hwb.out hb2.out⟩
    | zero =>
      obtain rfl : i = ny := by omega
      have e1 : ¬ (i : Int) < (i : Int) := by omega
      have ht2 := ht.out (fun k x h => ok1.out k x (by have := (List.getElem?_eq_some_iff.1 h).1; have := hYl.out; omega) h) (fun k x y h h' => ok2.out k x y (by have := (List.getElem?_eq_some_iff.1 h').1; have := hYl.out; omega) h h')
      replace ht2 := Lib.hid ht2
      clear ok1 ok2 ht
      obtain ⟨c0, c1⟩ := hcs2.out _ hb.out
      go_upto_region 8 with fail
      clear c0 c1
      go_loopg [5] ne (fun gm s5 wr => ∃ j : Nat, s5 = .int .i64 (j : Int) ∧ j + gm = ne ∧ (∀ e ∈ E.take j, e.k.toList.isEmpty = false ∧ e.v.size ≤ 80) ∧ Below w2.heap.size w2 wr)
      case atStart => exact ⟨0, rfl, by omega, (fun e he => by cases he), hb.out⟩
      case round =>
        clear hb
        obtain ⟨j, rfl, hj, ok, hb⟩ := hrel
        replace ok := Lib.hid ok; replace hb := Lib.hid hb
        obtain ⟨c0, c1⟩ := hcs2.out _ hb.out
        cases gk with
        | succ u =>
          have e1 : (j : Int) < (ne : Int) := by omega
          have e2 : (0 : Int) ≤ (j : Int) := by omega
          obtain ⟨bb, o, rfl, hr⟩ := h1.out.resolve_left (by omega)
          obtain ⟨x, hx⟩ : ∃ x, E[j]? = some x := ⟨_, List.getElem?_eq_getElem (by have := hne.out; omega)⟩
          have hbad := hfE.out x (List.mem_of_getElem? hx)
          have hgood : (x.k.toList.isEmpty = false ∧ x.v.size ≤ 80) → ∀ y ∈ E.take (j + 1), y.k.toList.isEmpty = false ∧ y.v.size ≤ 80 := fun h y hy => by
            rw [List.take_add_one, hx] at hy
            rcases List.mem_append.1 hy with hy | hy
            · exact ok.out y hy
            · simp at hy; subst hy; exact h
          obtain ⟨xk, xv⟩ := x
          have hbl := belowCont hwb.out hb.out
          have d0 : wr.cell? ⟨bb, o + j * 2, none⟩ = some (.string xk) := (hbl.cell hr.1).trans (hr.elem0 En.c_len hx rfl)
          have d1 : wr.cell? ⟨bb, o + j * 2 + 1, none⟩ = some (.string xv) := (hbl.cell hr.1).trans (hr.elem En.c_len hx rfl)
          replace hbad := Lib.hid hbad; replace hgood := Lib.hid hgood; replace hbl := Lib.hid hbl
          clear hr hx
          cases t1 : xk.toList.isEmpty with
          | true =>
            have hRf := Lib.hid (hbad.out (Or.inl t1))
            go_wp2
            go_ret
            exact ⟨by rw [hRf.out]; rfl, hbl.out⟩
          | false =>
            by_cases t3 : xv.size ≤ 80
            · have t3' : ¬ (80 : Int) < (xv.size : Int) := by omega
              have hg := Lib.hid (hgood.out ⟨t1, t3⟩)
              clear t3
              go_wp2
              go_roundg u
              case rel => exact ⟨j + 1, by go_num, by omega, hg.out, hb.out⟩
              case measure => omega
            · have t3' : (80 : Int) < (xv.size : Int) := by omega
              have hRf := Lib.hid (hbad.out (Or.inr (by show 80 < xv.size; omega)))
              clear t3
              go_wp2
              go_ret
              exact ⟨by rw [hRf.out]; rfl, hbl.out⟩
        | zero =>
          obtain rfl : j = ne := by omega
          have e1 : ¬ (j : Int) < (j : Int) := by omega
          have ht3 := ht2.out (by rw [List.take_of_length_le (by have := hne.out; omega)] at ok; exact ok.out)
          replace ht3 := Lib.hid ht3
          clear ok ht2
          go_upto_region 13 with fail
          clear c0 c1
          go_loopg [6] nk (fun gm s6 wr => ∃ m : Nat, s6 = .int .i64 (m : Int) ∧ m + gm = nk ∧ (∀ x ∈ K.take m, 0 ≤ x.pl ∧ x.pl < 4096 ∧ x.sm.size = 32) ∧ Below w2.heap.size w2 wr)
          case atStart => exact ⟨0, rfl, by omega, (fun e he => by cases he), hb.out⟩
          case round =>
            clear hb
            obtain ⟨m, rfl, hm, ok, hb⟩ := hrel
            replace ok := Lib.hid ok; replace hb := Lib.hid hb
            obtain ⟨c0, c1⟩ := hcs2.out _ hb.out
            cases gk with
            | succ u =>
              have e1 : (m : Int) < (nk : Int) := by omega
              have e2 : (0 : Int) ≤ (m : Int) := by omega
              obtain ⟨bb, o, rfl, hr⟩ := h2.out.resolve_left (by omega)
              obtain ⟨x, hx⟩ : ∃ x, K[m]? = some x := ⟨_, List.getElem?_eq_getElem (by have := hnk.out; omega)⟩
              have hbad := hfK.out x (List.mem_of_getElem? hx)
              have hgood : (0 ≤ x.pl ∧ x.pl < 4096 ∧ x.sm.size = 32) → ∀ y ∈ K.take (m + 1), 0 ≤ y.pl ∧ y.pl < 4096 ∧ y.sm.size = 32 := fun h y hy => by
                rw [List.take_add_one, hx] at hy
                rcases List.mem_append.1 hy with hy | hy
                · exact ok.out y hy
                · simp at hy; subst hy; exact h
              obtain ⟨xl, xp, xs⟩ := x
              have hbl := belowCont hwb.out hb.out
              have d1 : wr.cell? ⟨bb, o + m * 3 + 1, none⟩ = some (.int .i64 xp) := (hbl.cell hr.1).trans (hr.elem Kd.c_len hx rfl)
              have d2 : wr.cell? ⟨bb, o + m * 3 + 2, none⟩ = some (.string xs) := (hbl.cell hr.1).trans (hr.elem Kd.c_len hx rfl)
              replace hbad := Lib.hid hbad; replace hgood := Lib.hid hgood; replace hbl := Lib.hid hbl
              clear hr hx
              go_upto_region 16 with fail
              have hp3 := Lib.hid (((Hp.none_ w2 []).below hb.out).alloc #[.int .i64 xp, .string xs] 39)
              clear c0 c1 d1 d2
              generalize wr.alloc _ = W6 at hp3 ⊢
              generalize wr.heap.size = qr at hp3 ⊢
              have r0 := hp3.out.cell (i := 0) rfl 0; have r1 := hp3.out.cell (i := 0) rfl 1
              simp at r0 r1
              by_cases t2 : 0 ≤ xp
              · have t2' : ¬ xp < (0 : Int) := by omega
                by_cases t3 : xp < 4096
                · have t3' : ¬ (4096 : Int) ≤ xp := by omega
                  by_cases t4 : xs.size = 32
                  · have hg := Lib.hid (hgood.out ⟨t2, t3, t4⟩)
                    have t4' : (xs.size : Int) = 32 := by omega
                    clear t2 t3
                    go_wp2
                    go_roundg u
                    case rel => exact ⟨m + 1, by go_num, by omega, hg.out, hp3.out.bel⟩
                    case measure => omega
                  · have t4' : ¬ (xs.size : Int) = 32 := by omega
                    have hRf := Lib.hid (hbad.out (Or.inr (Or.inr t4)))
                    clear t2 t3
                    go_wp2
                    go_ret
                    exact ⟨by rw [hRf.out]; rfl, belowCont hwb.out hp3.out.bel⟩
                · have t3' : (4096 : Int) ≤ xp := by omega
                  have hRf := Lib.hid (hbad.out (Or.inr (Or.inl t3')))
                  clear t2 t3
                  go_wp2
                  go_ret
                  exact ⟨by rw [hRf.out]; rfl, belowCont hwb.out hp3.out.bel⟩
              · have t2' : xp < (0 : Int) := by omega
                have hRf := Lib.hid (hbad.out (Or.inl t2'))
                clear t2
                go_wp2
                go_ret
                exact ⟨by rw [hRf.out]; rfl, belowCont hwb.out hp3.out.bel⟩
            | zero =>
              obtain rfl : m = nk := by omega
              have e1 : ¬ (m : Int) < (m : Int) := by omega
              have ht4 := ht3.out (by rw [List.take_of_length_le (by have := hnk.out; omega)] at ok; exact ok.out)
              have hbl := Lib.hid (belowCont hwb.out hb.out)
              clear ok ht3
              by_cases z1 : j = 0
              · by_cases z2 : m = 0
                · have hRf : R = false := by rw [ht4, z1, z2]; rfl
                  replace hRf := Lib.hid hRf
                  clear ht4
                  subst z1 z2
                  go_wp2
                  go_ret
                  exact ⟨by rw [hRf.out]; rfl, hbl.out⟩
                · have hRf : R = true := by rw [ht4, z1, decide_eq_false z2]; rfl
                  have g4 : ((m : Int) == 0) = false := by simp; omega
                  replace hRf := Lib.hid hRf
                  clear ht4 z2
                  subst z1
                  go_wp2
                  go_ret
                  exact ⟨by rw [hRf.out]; rfl, hbl.out⟩
              · have g3 : ((j : Int) == 0) = false := by simp; omega
                by_cases z2 : m = 0
                · have hRf : R = true := by rw [ht4, z2, decide_eq_false z1]; rfl
                  replace hRf := Lib.hid hRf
                  clear ht4 z1
                  subst z2
                  go_wp2
                  go_ret
                  exact ⟨by rw [hRf.out]; rfl, hbl.out⟩
                · have hRf : R = false := by rw [ht4, decide_eq_false z1, decide_eq_false z2]; rfl
                  have g4 : ((m : Int) == 0) = false := by simp; omega
                  replace hRf := Lib.hid hRf
                  clear ht4 z1 z2
                  go_wp2
                  go_ret
                  exact ⟨by rw [hRf.out]; rfl, hbl.out⟩
end Go.Proofs.Ytcdgnhhciccoeaa.nod
