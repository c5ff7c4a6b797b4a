/- One index less (Drop), those of labels (Of), the law's same. No condition but the slices' cells. -/
import Derived.Test.YtdgpalileloekaaSchemaP
import Derived.Test.YtdgpalileloekaaSchema6
namespace Go.Proofs.Ytdgpalileloekaa.schema
open Go.RowKit
attribute [local go_sem ↓] Go.wp_at_zero Go.wp_at_succ
set_option linter.unusedVariables false
set_option maxRecDepth 100000

theorem drop1_any (x : Ix) (ga gb : Nat) (lb kb : Int) (w : World) (ha : w.heap[ga]? = some (.cells #[.int .i64 lb] 3 (0, 0))) (hb : w.heap[gb]? = some (.cells #[.int .i64 kb] 3 (0, 0))) :
    Calls Try.prog 67 #[x.v, .pointer (some ⟨ga, 0, none⟩), .pointer (some ⟨gb, 0, none⟩)] w fun e w' => e = .returned (.bool (!(same lb kb x))) ∧ Below w.heap.size w w' := by
  obtain ⟨xl, xk, xd⟩ := x
  unfold Ix.v
  simp only
  have b0 := (Below.refl w.heap.size w).alloc (Nat.le_refl _) (.cells #[.int .i64 xl, .int .i64 xk, .int .i64 xd] 73)
  have a0 : (w.alloc (.cells #[.int .i64 xl, .int .i64 xk, .int .i64 xd] 73)).cell? ⟨ga, 0, none⟩ = some (.int .i64 lb) := (b0.cell (block_lt ha)).trans (cell_of_row _ _ 0 _ _ _ ha)
  have a1 : (w.alloc (.cells #[.int .i64 xl, .int .i64 xk, .int .i64 xd] 73)).cell? ⟨gb, 0, none⟩ = some (.int .i64 kb) := (b0.cell (block_lt hb)).trans (cell_of_row _ _ 0 _ _ _ hb)
  replace b0 := Lib.hid b0
  clear ha hb
  by_cases h : xl = lb
  · subst h
    have e1 : (xl == xl) = true := by simp
    by_cases h2 : xk = kb
    · subst h2
      have e3 : (xk == xk) = true := by simp
      have e2 : (!(same xl xk ⟨xl, xk, xd⟩)) = false := by unfold same; simp
      rw [e2]
      clear e2
      go_enter Try.func67, Try.ntmps67
      go_wp2
      go_ret
      exact ⟨rfl, b0.out⟩
    · have e3 : (xk == kb) = false := by simp [h2]
      have e4 : (xk != kb) = true := by simp [h2]
      have e2 : (!(same xl kb ⟨xl, xk, xd⟩)) = true := by unfold same; simp [h2]
      rw [e2]
      clear e2 h2
      go_enter Try.func67, Try.ntmps67
      go_wp2
      go_ret
      exact ⟨rfl, b0.out⟩
  · have e1 : (xl == lb) = false := by simp [h]
    have e4 : (xl != lb) = true := by simp [h]
    have e2 : (!(same lb kb ⟨xl, xk, xd⟩)) = true := by unfold same; simp [h]
    rw [e2]
    clear e2 h
    go_enter Try.func67, Try.ntmps67
    go_wp2
    go_ret
    exact ⟨rfl, b0.out⟩
def dropL (l : List Ix) (lb kb : Int) : List Ix := l.filter fun y => !(same lb kb y)
theorem drop_any (v : Value) (l : List Ix) (lb kb : Int) (w : World) (h : Sl w v l.length (ixCells l)) (hn : l.length ≤ 100000) :
    Calls Try.prog 34 #[v, .int .i64 lb, .int .i64 kb] w fun e w' => ∃ v', e = .returned (.tuple #[v', .bool (decide ((dropL l lb kb).length < l.length))]) ∧ RowRet w (dropL l lb kb) v' w' := by
  have hp := ((Hp.none_ w []).alloc #[.int .i64 lb] 3).alloc #[.int .i64 kb] 3
  have hs : (w.alloc (.cells #[.int .i64 lb] 3)).heap.size = w.heap.size + 1 := by simp
  rw [hs] at hp
  have hsl := h.below hp.bel
  obtain ⟨W, hW⟩ : ∃ W, W = (w.alloc (.cells #[.int .i64 lb] 3)).alloc (.cells #[.int .i64 kb] 3) := ⟨_, rfl⟩
  rw [← hW] at hp hsl
  have c := sifted_any 67 #[.pointer (some ⟨w.heap.size, 0, none⟩), .pointer (some ⟨w.heap.size + 1, 0, none⟩)] (fun y => !(same lb kb y)) v l W hsl hn (fun _ _ => rfl) (fun x X hb => by
    have ha : X.heap[w.heap.size]? = some (.cells #[.int .i64 lb] 3 (0, 0)) := (hb.block _ (hp.lt (i := 1) rfl)).trans (hp.box (i := 1) rfl)
    have hb' : X.heap[w.heap.size + 1]? = some (.cells #[.int .i64 kb] 3 (0, 0)) := (hb.block _ (hp.lt (i := 0) rfl)).trans (hp.box (i := 0) rfl)
    exact drop1_any x _ _ lb kb X ha hb')
  rw [hW] at c
  rw [hW] at hp
  obtain ⟨ad0, cp0, rfl, _, _⟩ := h
  obtain ⟨F, hF⟩ : ∃ F, F = dropL l lb kb := ⟨_, rfl⟩
  have hF2 : l.filter (fun y => !(same lb kb y)) = F := hF.symm
  rw [hF2] at c
  rw [← hF]
  generalize l.length = ln at *
  replace c := Lib.hid c; replace hp := Lib.hid hp
  clear hsl hs hW hn hF hF2
  have hmf1 := hmf
  go_enter Try.func34, Try.ntmps34
  go_wp2_with (go_at_call 66; (with_reducible refine (c.out).mono ?_); rintro e w1 ⟨v', rfl, ⟨ad, cp, rfl⟩, h1⟩; replace hp := Lib.hid ((((hp.out.take h1).drop 2).drop 1)); clear h1)
  go_ret2
  exact ⟨.slice ad F.length cp, rfl, ⟨_, _, rfl⟩, hp.out⟩
def iC (L : List Int) : List Value := L.map (Value.int .i64)
theorem index_any (v : Value) (L : List Int) (x : Int) (w : World) (h : Sl w v L.length (iC L)) (hn : L.length ≤ 1000000) :
    Calls Try.prog 88 #[v, .int .i64 x] w fun e w' => ∃ k : Int, e = .returned (.int .i64 k) ∧ decide (k ≥ 0) = decide (x ∈ L) ∧ Below w.heap.size w w' := by
  obtain ⟨a, cp, rfl, hmax, h⟩ := h
  obtain ⟨n, hln⟩ : ∃ n, n = L.length := ⟨_, rfl⟩
  rw [← hln] at hn hmax h ⊢
  replace h := Lib.hid h; replace hln := Lib.hid hln
  go_enter Try.func88, Try.ntmps88
  go_wp2
  go_loopw [8] (fun s8 wr => ∃ i : Nat, s8 = .int .i64 (i : Int) ∧ i ≤ n ∧ x ∉ L.take i ∧ Below w.heap.size w wr) (fun s8 _ => n - (intOf s8).toNat)
  case atStart => exact ⟨0, rfl, by omega, by simp, Below.refl _ _⟩
  case round =>
    obtain ⟨i, rfl, hi, hno, hb⟩ := hrel
    by_cases hlt : i < n
    · obtain ⟨b, o, rfl, hr⟩ := h.out.resolve_left (by omega)
      obtain ⟨y, hy⟩ : ∃ x, L[i]? = some x := ⟨_, List.getElem?_eq_getElem (by have := hln.out; omega)⟩
      have d0 : wr.cell? ⟨b, o + i, none⟩ = some (.int .i64 y) := (hb.cell hr.1).trans (hr.2 i _ (by unfold iC; rw [List.getElem?_map, hy]; rfl))
      have e1 : (0 : Int) ≤ (i : Int) := by omega
      have e2 : (i : Int) < (n : Int) := by omega
      replace hb := Lib.hid hb
      replace hy := Lib.hid hy
      clear hr
      by_cases hxy : x = y
      · subst hxy
        have t1 : (x == x) = true := by simp
        have hmem : x ∈ L := List.mem_of_getElem? hy.out
        replace hno := Lib.hid hno; replace hmem := Lib.hid hmem
        go_wp2
        go_ret
        exact ⟨_, rfl, by simp [hmem.out, e1], hb.out⟩
      · have t1 : (x == y) = false := by simp [hxy]
        have hno2 : x ∉ L.take (i + 1) := by rw [List.take_add_one, hy.out]; simp [hno, hxy]
        replace hno2 := Lib.hid hno2
        clear hno hxy
        go_wp2
        go_roundw
        case rel => exact ⟨i + 1, by go_num, by omega, hno2.out, hb.out⟩
        case measure => simp [intOf]; omega
    · obtain rfl : n = i := by omega
      have hno2 : x ∉ L := by rw [List.take_of_length_le (by have := hln.out; omega)] at hno; exact hno
      replace hb := Lib.hid hb; replace hno2 := Lib.hid hno2
      clear hno
      go_wp2
      go_ret
      exact ⟨_, rfl, by simp [hno2.out], hb.out⟩
theorem contains_any (v : Value) (L : List Int) (x : Int) (w : World) (h : Sl w v L.length (iC L)) (hn : L.length ≤ 1000000) :
    Calls Try.prog 77 #[v, .int .i64 x] w fun e w' => e = .returned (.bool (decide (x ∈ L))) ∧ Below w.heap.size w w' := by
  have c := Lib.hid (index_any v L x w h hn)
  obtain ⟨q, hq⟩ : ∃ q, q = decide (x ∈ L) := ⟨_, rfl⟩
  rw [← hq] at c ⊢
  clear h hn hq
  go_enter Try.func77, Try.ntmps77
  go_wp2_with (go_at_call 88; (with_reducible refine (c.out).mono ?_); rintro e w1 ⟨k, rfl, hk, b1⟩; replace b1 := Lib.hid b1; subst hk)
  go_ret
  exact ⟨rfl, b1.out⟩
theorem of1_any (x : Ix) (g : Nat) (v : Value) (L : List Int) (w : World) (h : Sl w v L.length (iC L)) (hn : L.length ≤ 1000000) (hg : w.heap[g]? = some (.cells #[v] 70 (0, 0))) :
    Calls Try.prog 76 #[x.v, .pointer (some ⟨g, 0, none⟩)] w fun e w' => e = .returned (.bool (decide (x.l ∈ L))) ∧ Below w.heap.size w w' := by
  obtain ⟨xl, xk, xd⟩ := x
  unfold Ix.v
  simp only
  have hp := (Hp.none_ w []).alloc #[.int .i64 xl, .int .i64 xk, .int .i64 xd] 73
  have a0 : (w.alloc (.cells #[.int .i64 xl, .int .i64 xk, .int .i64 xd] 73)).cell? ⟨g, 0, none⟩ = some v := (hp.bel.cell (block_lt hg)).trans (cell_of_row _ _ 0 _ _ _ hg)
  have c := fun W (hb : Below w.heap.size w W) => contains_any v L xl W (h.below hb) hn
  obtain ⟨q, hq⟩ : ∃ q, q = decide (xl ∈ L) := ⟨_, rfl⟩
  rw [← hq] at c ⊢
  obtain ⟨ad0, cp0, rfl, _, _⟩ := h
  have d0 := hp.cell (i := 0) rfl 0
  simp at d0
  replace hp := Lib.hid hp; replace c := Lib.hid c
  clear hg hn hq
  go_enter Try.func76, Try.ntmps76
  go_wp2_with (go_at_call 77; (with_reducible refine (c.out _ hp.out.bel).mono ?_); rintro e w1 ⟨rfl, b1⟩; replace hp := Lib.hid (hp.out.below b1); clear b1)
  go_ret
  exact ⟨rfl, hp.out.bel⟩
def ofL (l : List Ix) (L : List Int) : List Ix := l.filter fun y => decide (y.l ∈ L)
theorem of_any (v u : Value) (l : List Ix) (L : List Int) (w : World) (h : Sl w v l.length (ixCells l)) (hu : Sl w u L.length (iC L)) (hn : l.length ≤ 100000) (hL : L.length ≤ 1000000) :
    Calls Try.prog 42 #[v, u] w fun e w' => ∃ v', e = .returned v' ∧ RowRet w (ofL l L) v' w' := by
  have hp := (Hp.none_ w []).alloc #[u] 70
  have hsl := h.below hp.bel
  have hul := hu.below hp.bel
  have c := sifted_any 76 #[.pointer (some ⟨w.heap.size, 0, none⟩)] (fun y => decide (y.l ∈ L)) v l _ hsl hn (fun _ _ => rfl) (fun x X hb => of1_any x _ u L X (hul.below hb) hL ((hb.block _ (hp.lt (i := 0) rfl)).trans (hp.box (i := 0) rfl)))
  have hF2 : l.filter (fun y => decide (y.l ∈ L)) = ofL l L := rfl
  rw [hF2] at c
  obtain ⟨ad0, cp0, rfl, _, _⟩ := h
  obtain ⟨ad1, cp1, rfl, _, _⟩ := hu
  obtain ⟨F, hF⟩ : ∃ F, F = ofL l L := ⟨_, rfl⟩
  rw [← hF] at c ⊢
  replace c := Lib.hid c; replace hp := Lib.hid hp
  clear hsl hul hn hL hF hF2
  have hmf1 := hmf
  go_enter Try.func42, Try.ntmps42
  go_wp2_with (go_at_call 66; (with_reducible refine (c.out).mono ?_); rintro e w1 ⟨v', rfl, hv, h1⟩; replace hp := Lib.hid ((hp.out.take h1).drop 1); clear h1; replace hv := Lib.hid hv)
  go_ret
  exact ⟨_, rfl, hv.out, hp.out⟩
theorem same_eq (v u : Value) (L : List Ix) (w : World) (h : Sl w v L.length (ixCells L)) (h' : Sl w u L.length (ixCells L)) (hn : L.length ≤ 1000000) :
    Calls Try.prog 38 #[v, u] w fun e w' => e = .returned (.bool true) ∧ Below w.heap.size w w' := by
  obtain ⟨a, cp, rfl, hmax, h⟩ := h
  obtain ⟨a', cp', rfl, _, h'⟩ := h'
  obtain ⟨n, hln⟩ : ∃ n, n = L.length := ⟨_, rfl⟩
  rw [← hln] at hn hmax h h' ⊢
  replace h := Lib.hid h; replace h' := Lib.hid h'; replace hln := Lib.hid hln
  go_enter Try.func38, Try.ntmps38
  go_wp2
  go_loopw [5] (fun s5 wr => ∃ i : Nat, s5 = .int .i64 (i : Int) ∧ i ≤ n ∧ Below w.heap.size w wr) (fun s5 _ => n - (intOf s5).toNat)
  case atStart => exact ⟨0, rfl, by omega, Below.refl _ _⟩
  case round =>
    obtain ⟨i, rfl, hi, hb⟩ := hrel
    by_cases hlt : i < n
    · obtain ⟨b, o, rfl, hr⟩ := h.out.resolve_left (by omega)
      obtain ⟨b', o', rfl, hr'⟩ := h'.out.resolve_left (by omega)
      obtain ⟨x, hx⟩ : ∃ x, L[i]? = some x := ⟨_, List.getElem?_eq_getElem (by have := hln.out; omega)⟩
      have d0 : wr.cell? ⟨b, o + i * 3, none⟩ = some (.int .i64 x.l) := (hb.cell hr.1).trans (hr.elem0 ixC_len hx rfl)
      have d1 : wr.cell? ⟨b, o + i * 3 + 1, none⟩ = some (.int .i64 x.k) := (hb.cell hr.1).trans (hr.elem ixC_len hx rfl)
      have d2 : wr.cell? ⟨b, o + i * 3 + 2, none⟩ = some (.int .i64 x.d) := (hb.cell hr.1).trans (hr.elem ixC_len hx rfl)
      have f0 : wr.cell? ⟨b', o' + i * 3, none⟩ = some (.int .i64 x.l) := (hb.cell hr'.1).trans (hr'.elem0 ixC_len hx rfl)
      have f1 : wr.cell? ⟨b', o' + i * 3 + 1, none⟩ = some (.int .i64 x.k) := (hb.cell hr'.1).trans (hr'.elem ixC_len hx rfl)
      have f2 : wr.cell? ⟨b', o' + i * 3 + 2, none⟩ = some (.int .i64 x.d) := (hb.cell hr'.1).trans (hr'.elem ixC_len hx rfl)
      have e1 : (0 : Int) ≤ (i : Int) := by omega
      have e2 : (i : Int) < (n : Int) := by omega
      replace hb := Lib.hid hb
      clear hr hr' hx
      go_upto_region 6 with fail
      go_quiet (fail)
      go_wp2
      go_roundw
      case rel => exact ⟨i + 1, by go_num, by omega, belowDrewN hb.out _⟩
      case measure => simp [intOf]; omega
    · obtain rfl : n = i := by omega
      replace hb := Lib.hid hb
      go_wp2
      go_ret
      exact ⟨rfl, hb.out⟩
end Go.Proofs.Ytdgpalileloekaa.schema
