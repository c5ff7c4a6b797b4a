/- slices.Clone, slices.Grow of nil, slices.Concat, at indexes. No condition but the cells of what is cloned. -/
import Derived.Test.YtdgpalileloekaaApp
namespace Go.Proofs.Ytdgpalileloekaa.slix
open Go.RowKit
attribute [local go_sem ↓] Go.wp_at_zero Go.wp_at_succ
set_option linter.unusedVariables false
set_option maxRecDepth 100000

theorem eql_nil {P : Program} (w : World) (t e : TypeId) (a : Option Addr) (l c : Nat) (h : P.underlying t = some (.slice e)) : (binOp .eql t (.slice a l c) (.slice none 0 0)).run P w = .ok (.bool a.isNone) w := by
  have := run_equal_slice_nil (w := w) t e a l c h
  simp [binOp, this]
def z0 : Value := .agg #[.int .i64 0, .int .i64 0, .int .i64 0]
theorem eInfo : (Try.prog.info? 73).map (fun i => (i.zero, i.size, i.bytes)) = some (some z0, 3, 24) := by kernel_rfl
theorem clone_any (v : Value) (m : Nat) (ys : List Value) (hys : ys.length = m * 3) (h1 : ∀ u ∈ ys, u.oneCell' = true) (hm : m ≤ 1000000) (w : World) (h : Sl w v m ys) :
    Calls Try.prog 69 #[v] w fun e w' => ∃ v', e = .returned v' ∧ (∃ ad cap, v' = .slice ad m cap) ∧ Hp w [] [.row 73 3 v' m ys] w' := by
  have h0 := h
  obtain ⟨ad, c, rfl, hmx, hc⟩ := h
  cases ad with
  | none =>
    obtain rfl : m = 0 := by rcases hc with hc | ⟨b, o, hc, _⟩; exact hc; cases hc
    have hy0 : ys = [] := List.length_eq_zero_iff.1 (by simpa using hys)
    subst hy0
    have hp := Lib.hid ((Hp.none_ w []).rowNil 73 3)
    have heq : ∀ W : World, (binOp .eql 71 (.slice none 0 c) (.slice none 0 0)).run Try.prog W = .ok (.bool true) W := fun W => eql_nil W _ _ _ _ _ Try.underlying71
    clear h0 hc h1 hys
    go_enter Try.func69, Try.ntmps69
    go_wp2
    go_ret
    exact ⟨_, rfl, ⟨_, _, rfl⟩, hp.out⟩
  | some ad =>
    have hp := Lib.hid ((Hp.none_ w []).rowLit #[] 73 3 0 (by decide) rfl)
    have hsl := Lib.hid (h0.below ((Below.refl _ _).alloc (Nat.le_refl _) (.cells #[] 73)))
    have heq : ∀ W : World, (binOp .eql 71 (.slice (some ad) m c) (.slice none 0 0)).run Try.prog W = .ok (.bool false) W := fun W => eql_nil W _ _ _ _ _ Try.underlying71
    clear hc h0 hmx
    replace h1 := Lib.hid h1; replace hys := Lib.hid hys; replace hm := Lib.hid hm
    go_enter Try.func69, Try.ntmps69
    go_wp2_with (at_builtin; go_loud (refine wpList_append_sl_hp rfl _ _ rfl Try.underlying71 eInfo rfl (by decide) (by decide) hp.out 0 rfl rfl rfl hsl.out hys.out h1.out (by have := hm.out; omega) ?_; intro v2 w2 hp2 hv2; replace hp := Lib.hid hp2; clear hp2; obtain ⟨ad2, cp2, rfl⟩ := hv2))
    go_ret
    exact ⟨_, rfl, ⟨_, _, rfl⟩, by have := hp.out; simpa using this⟩
set_option maxHeartbeats 2000000 in
theorem grow_nil (n : Nat) (hn : n ≤ 1000000) (w : World) :
    Calls Try.prog 87 #[.slice none 0 0, .int .i64 (n : Int)] w fun e w' => ∃ v', e = .returned v' ∧ (∃ ad cap, v' = .slice ad 0 cap) ∧ Hp w [] [.row 73 3 v' 0 []] w' := by
  have hn0 : ¬ (n : Int) < 0 := by omega
  have hw : IntKind.i64.wrap (n : Int) = (n : Int) := by rw [IntKind.wrap_i64]; omega
  by_cases h0 : n = 0
  · subst h0
    have hp := Lib.hid ((Hp.none_ w []).rowNil 73 3)
    clear hw hn hn0
    go_enter Try.func87, Try.ntmps87
    go_wp2
    go_ret
    exact ⟨_, rfl, ⟨_, _, rfl⟩, hp.out⟩
  · obtain ⟨cap, cur, hrun, hcap, hp⟩ := append_zeros (w := w) (W := w) (X := []) (rs := []) (t := 71) (tn := 3) (ty := 71) (kq := .i64) Try.underlying71 Try.underlying3 eInfo rfl (by decide) (by decide) (Hp.none_ w []) n (by omega) (by omega)
    have hpos : (0 : Int) < (n : Int) := by omega
    have hc2 : ((0 : Nat) : Int) ≤ (cap : Int) := by omega
    replace hp := Lib.hid hp; replace hrun := Lib.hid hrun; replace hcap := Lib.hid hcap
    clear hn h0
    go_enter Try.func87, Try.ntmps87
    go_wp2_with (at_builtin; go_loud (refine Lib.wpList_append_run _ rfl _ _ _ _ rfl _ _ rfl rfl _ _ hrun.out ?_))
    go_ret
    exact ⟨_, rfl, ⟨_, _, rfl⟩, hp.out⟩
/-- of a list of lists, the first ones and one more -/
theorem take_flat {α : Type} (ps : List (List α)) (i : Nat) (p : List α) (h : ps[i]? = some p) : (ps.take (i + 1)).flatten = (ps.take i).flatten ++ p := by
  rw [List.take_add_one, h]; simp
theorem take_flat_le {α : Type} (ps : List (List α)) (i : Nat) : (ps.take i).flatten.length ≤ ps.flatten.length := by
  have := congrArg (fun l => l.flatten.length) (List.take_append_drop i ps)
  simp only [List.flatten_append, List.length_append] at this
  omega
def Part (w : World) (v : Value) (ys : List Value) : Prop := ∃ m, ys.length = m * 3 ∧ Sl w v m ys ∧ ∀ u ∈ ys, u.oneCell' = true
set_option maxHeartbeats 4000000 in
theorem concat_any (v : Value) (k : Nat) (vals : List Value) (parts : List (List Value)) (tot : Nat) (hk : vals.length = k) (hk2 : parts.length = k) (hk3 : k ≤ 1000) (ht : parts.flatten.length = tot * 3) (htm : tot ≤ 1000000) (w : World) (h : Sl w v k vals) (hparts : ∀ (i : Nat) (u : Value), vals[i]? = some u → ∃ ys : List Value, parts[i]? = some ys ∧ Part w u ys) :
    Calls Try.prog 73 #[v] w fun e w' => ∃ v', e = .returned v' ∧ (∃ ad cap, v' = .slice ad tot cap) ∧ Hp w [] [.row 73 3 v' tot parts.flatten] w' := by
  obtain ⟨a, cap, rfl, hmax, h⟩ := h
  have cg := fun (n : Nat) (hn : n ≤ 1000000) W => grow_nil n hn W
  replace hk := Lib.hid hk; replace hk2 := Lib.hid hk2; replace ht := Lib.hid ht; replace htm := Lib.hid htm; replace hparts := Lib.hid hparts; replace h := Lib.hid h; replace cg := Lib.hid cg
  go_enter Try.func73, Try.ntmps73
  go_wp2
  go_loopw [3, 11] (fun s3 s11 wr => ∃ i s : Nat, s11 = .int .i64 (i : Int) ∧ i ≤ k ∧ s3 = .int .i64 (s : Int) ∧ (parts.take i).flatten.length = s * 3 ∧ w = wr) (fun _ s11 _ => k - (intOf s11).toNat)
  case atStart => exact ⟨0, 0, rfl, by omega, rfl, by simp, rfl⟩
  case round =>
    obtain ⟨i, s, rfl, hi, rfl, hs, rfl⟩ := hrel
    by_cases hlt : i < k
    · obtain ⟨b, o, rfl, hr⟩ := h.out.resolve_left (by omega)
      obtain ⟨u, hu⟩ : ∃ u, vals[i]? = some u := ⟨_, List.getElem?_eq_getElem (by have := hk.out; omega)⟩
      obtain ⟨ys, hy, m, hm, hsl, h1⟩ := hparts.out i u hu
      have d0 := hr.2 i u hu
      have e1 : (0 : Int) ≤ (i : Int) := by omega
      have e2 : (i : Int) < (k : Int) := by omega
      have hf := take_flat parts i ys hy
      have hle := take_flat_le parts (i + 1)
      have hsum : (parts.take (i + 1)).flatten.length = (s + m) * 3 := by rw [hf, List.length_append, hs, hm, Nat.add_mul]
      have hb : s + m ≤ 1000000 := by have := ht.out; have := htm.out; omega
      obtain ⟨ad, c, rfl, _, _⟩ := hsl
      have e3 : ¬ (s : Int) + (m : Int) < 0 := by omega
      have e4 : wrap64 ((s : Int) + (m : Int)) = (s : Int) + (m : Int) := by unfold wrap64; omega
      replace hsum := Lib.hid hsum; replace hs := Lib.hid hs
      clear hr hu hy hm h1 hf hle
      go_wp2
      go_roundw
      case rel => exact ⟨i + 1, s + m, by go_num, by omega, by go_num, hsum.out, by first | trivial | rfl⟩
      case measure => simp [intOf]; omega
    · obtain rfl : k = i := by omega
      rw [List.take_of_length_le (by rw [hk2.out]; exact Nat.le_refl _), ht.out] at hs
      obtain rfl : tot = s := by omega
      have cg2 := Lib.hid (cg.out tot htm.out)
      clear hs
      go_wp2_with (go_at_call 87; (with_reducible refine (cg2.out _).mono ?_); rintro e w2 ⟨v2, rfl, ⟨ad2, cp2, rfl⟩, hp⟩; replace hp := Lib.hid hp)
      go_loopw [6, 27] (fun s6 s27 wr => ∃ (i n : Nat) (ad : Option Addr) (cp : Nat), s27 = .int .i64 (i : Int) ∧ i ≤ k ∧ s6 = .slice ad n cp ∧ (parts.take i).flatten.length = n * 3 ∧ Hp w [] [.row 73 3 (.slice ad n cp) n (parts.take i).flatten] wr) (fun _ s27 _ => k - (intOf s27).toNat)
      case atStart => exact ⟨0, 0, _, _, rfl, by omega, rfl, by simp, hp.out⟩
      case round =>
        clear hp
        obtain ⟨i, n, ad3, cp3, rfl, hi2, rfl, hn, hp⟩ := hrel
        by_cases hlt2 : i < k
        · obtain ⟨b, o, rfl, hr⟩ := h.out.resolve_left (by omega)
          obtain ⟨u, hu⟩ : ∃ u, vals[i]? = some u := ⟨_, List.getElem?_eq_getElem (by have := hk.out; omega)⟩
          obtain ⟨ys, hy, m, hm, hsl, h1⟩ := hparts.out i u hu
          have d0 := (hp.bel.cell hr.1).trans (hr.2 i u hu)
          have e1 : (0 : Int) ≤ (i : Int) := by omega
          have e2 : (i : Int) < (k : Int) := by omega
          have hf := take_flat parts i ys hy
          have hle := take_flat_le parts (i + 1)
          have hsum : (parts.take (i + 1)).flatten.length = (n + m) * 3 := by rw [hf, List.length_append, hn, hm, Nat.add_mul]
          have hb : n + m ≤ 1000000 := by have := ht.out; have := htm.out; omega
          have hsl2 := hsl.below hp.bel
          replace hp := Lib.hid hp; replace hsl2 := Lib.hid hsl2; replace h1 := Lib.hid h1; replace hm := Lib.hid hm; replace hf := Lib.hid hf; replace hsum := Lib.hid hsum
          clear hr hu hy hle hn hsl
          go_wp2_with (at_builtin; go_loud (refine wpList_append_sl_hp rfl _ _ rfl Try.underlying71 eInfo rfl (by decide) (by decide) hp.out 0 rfl rfl rfl hsl2.out hm.out h1.out (by omega) ?_; intro v4 w4 hp4 hv4; rw [← hf.out] at hp4; replace hp := Lib.hid hp4; clear hp4; obtain ⟨ad4, cp4, rfl⟩ := hv4))
          go_roundw
          case rel => exact ⟨i + 1, n + m, _, _, by go_num, by omega, rfl, hsum.out, hp.out⟩
          case measure => simp [intOf]; omega
        · obtain rfl : k = i := by omega
          rw [List.take_of_length_le (by rw [hk2.out]; exact Nat.le_refl _)] at hp hn
          rw [ht.out] at hn
          obtain rfl : tot = n := by omega
          replace hp := Lib.hid hp
          clear hn
          go_wp2
          go_ret
          exact ⟨_, rfl, ⟨_, _, rfl⟩, hp.out⟩
end Go.Proofs.Ytdgpalileloekaa.slix
