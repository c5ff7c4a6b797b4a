/- slices.Grow of nil, slices.Concat, at entries and pages below; two pages together (node.Both). No condition but the lengths. -/
import Derived.Test.YtcdgnhhciccoeaaNod4
namespace Go.Proofs.Ytcdgnhhciccoeaa.nod
open Go.RowKit
attribute [local go_sem ↓] Go.wp_at_zero Go.wp_at_succ
set_option linter.unusedVariables false
set_option linter.unusedSimpArgs false
set_option maxRecDepth 100000

/-- of a list of lists, the first ones and one more -/
theorem take_flat {α : Type} (ps : List (List α)) (i : Nat) (p : List α) (h : ps[i]? = some p) : (ps.take (i + 1)).flatten = (ps.take i).flatten ++ p := by
  rw [List.take_add_one, h]; simp
theorem take_flat_le {α : Type} (ps : List (List α)) (i : Nat) : (ps.take i).flatten.length ≤ ps.flatten.length := by
  have := congrArg (fun l => l.flatten.length) (List.take_append_drop i ps)
  simp only [List.flatten_append, List.length_append] at this
  omega
set_option maxHeartbeats 2000000 in
theorem growE_nil (n : Nat) (hn : n ≤ 1000000) (w : World) :
    Calls Try.prog 41 #[.slice none 0 0, .int .i64 (n : Int)] w fun e w' => ∃ v', e = .returned v' ∧ (∃ ad cap, v' = .slice ad 0 cap) ∧ Hp w [] [.row 43 2 v' 0 []] w' := by
  have hn0 : ¬ (n : Int) < 0 := by omega
  have hw : IntKind.i64.wrap (n : Int) = (n : Int) := by rw [IntKind.wrap_i64]; omega
  by_cases h0 : n = 0
  · subst h0
    have hp := Lib.hid ((Hp.none_ w []).rowNil 43 2)
    clear hw hn hn0
    go_enter Try.func41, Try.ntmps41
    go_wp2
    go_ret
    exact ⟨_, rfl, ⟨_, _, rfl⟩, hp.out⟩
  · obtain ⟨cap, cur, hrun, hcap, hp⟩ := append_zeros (w := w) (W := w) (X := []) (rs := []) (t := 22) (tn := 3) (ty := 22) (kq := .i64) Try.underlying22 Try.underlying3 eInfo rfl (by decide) (by decide) (Hp.none_ w []) n (by omega) (by omega)
    have hpos : (0 : Int) < (n : Int) := by omega
    have hc2 : ((0 : Nat) : Int) ≤ (cap : Int) := by omega
    replace hp := Lib.hid hp; replace hrun := Lib.hid hrun; replace hcap := Lib.hid hcap
    clear hn h0
    go_enter Try.func41, Try.ntmps41
    go_wp2_with (at_builtin; (refine Lib.wpList_append_run _ rfl _ _ _ _ rfl _ _ rfl rfl _ _ hrun.out ?_))
    go_ret
    exact ⟨_, rfl, ⟨_, _, rfl⟩, hp.out⟩
def PartE (w : World) (v : Value) (ys : List Value) : Prop := ∃ m, ys.length = m * 2 ∧ Sl w v m ys ∧ ∀ u ∈ ys, u.oneCell' = true
set_option maxHeartbeats 4000000 in
theorem concatE_any (v : Value) (k : Nat) (vals : List Value) (parts : List (List Value)) (tot : Nat) (hk : vals.length = k) (hk2 : parts.length = k) (hk3 : k ≤ 1000) (ht : parts.flatten.length = tot * 2) (htm : tot ≤ 1000000) (w : World) (h : Sl w v k vals) (hparts : ∀ (i : Nat) (u : Value), vals[i]? = some u → ∃ ys : List Value, parts[i]? = some ys ∧ PartE w u ys) :
    Calls Try.prog 32 #[v] w fun e w' => ∃ v', e = .returned v' ∧ (∃ ad cap, v' = .slice ad tot cap) ∧ Hp w [] [.row 43 2 v' tot parts.flatten] w' := by
  obtain ⟨a, cap, rfl, hmax, h⟩ := h
  have cg := fun (n : Nat) (hn : n ≤ 1000000) W => growE_nil n hn W
  replace hk := Lib.hid hk; replace hk2 := Lib.hid hk2; replace ht := Lib.hid ht; replace htm := Lib.hid htm; replace hparts := Lib.hid hparts; replace h := Lib.hid h; replace cg := Lib.hid cg
  go_enter Try.func32, Try.ntmps32
  go_wp2
  go_loopw [3, 11] (fun s3 s11 wr => ∃ i s : Nat, s11 = .int .i64 (i : Int) ∧ i ≤ k ∧ s3 = .int .i64 (s : Int) ∧ (parts.take i).flatten.length = s * 2 ∧ w = wr) (fun _ s11 _ => k - (intOf s11).toNat)
  case atStart => exact ⟨0, 0, rfl, by omega, rfl, by simp, rfl⟩
  case round =>
    obtain ⟨i, s, rfl, hi, rfl, hs, rfl⟩ := hrel
    by_cases hlt : i < k
    · obtain ⟨b, o, rfl, hr⟩ := h.out.resolve_left (by omega)
      obtain ⟨u, hu⟩ : ∃ u, vals[i]? = some u := ⟨_, List.getElem?_eq_getElem (by have := hk.out; omega)⟩
      obtain ⟨ys, hy, m, hm, hsl, h1⟩ := hparts.out i u hu
      have d0 := hr.2 i u hu
      have e1 : (0 : Int) ≤ (i : Int) := by omega
      have e2 : (i : Int) < (k : Int) := by omega
      have hf := take_flat parts i ys hy
      have hle := take_flat_le parts (i + 1)
      have hsum : (parts.take (i + 1)).flatten.length = (s + m) * 2 := by rw [hf, List.length_append, hs, hm, Nat.add_mul]
      have hb : s + m ≤ 1000000 := by have := ht.out; have := htm.out; omega
      obtain ⟨ad, c, rfl, _, _⟩ := hsl
      have e3 : ¬ (s : Int) + (m : Int) < 0 := by omega
      have e4 : wrap64 ((s : Int) + (m : Int)) = (s : Int) + (m : Int) := by unfold wrap64; omega
      replace hsum := Lib.hid hsum; replace hs := Lib.hid hs
      clear hr hu hy hm h1 hf hle
      go_wp2
      go_roundw
      case rel => exact ⟨i + 1, s + m, by go_num, by omega, by go_num, hsum.out, by first | trivial | rfl⟩
      case measure => simp [intOf]; omega
    · obtain rfl : k = i := by omega
      rw [List.take_of_length_le (by rw [hk2.out]; exact Nat.le_refl _), ht.out] at hs
      obtain rfl : tot = s := by omega
      have cg2 := Lib.hid (cg.out tot htm.out)
      clear hs
      go_wp2_with (go_at_call 41; (with_reducible refine (cg2.out _).mono ?_); rintro e w2 ⟨v2, rfl, ⟨ad2, cp2, rfl⟩, hp⟩; replace hp := Lib.hid hp)
      go_loopw [6, 27] (fun s6 s27 wr => ∃ (i n : Nat) (ad : Option Addr) (cp : Nat), s27 = .int .i64 (i : Int) ∧ i ≤ k ∧ s6 = .slice ad n cp ∧ (parts.take i).flatten.length = n * 2 ∧ Hp w [] [.row 43 2 (.slice ad n cp) n (parts.take i).flatten] wr) (fun _ s27 _ => k - (intOf s27).toNat)
      case atStart => exact ⟨0, 0, _, _, rfl, by omega, rfl, by simp, hp.out⟩
      case round =>
        clear hp
        obtain ⟨i, n, ad3, cp3, rfl, hi2, rfl, hn, hp⟩ := hrel
        by_cases hlt2 : i < k
        · obtain ⟨b, o, rfl, hr⟩ := h.out.resolve_left (by omega)
          obtain ⟨u, hu⟩ : ∃ u, vals[i]? = some u := ⟨_, List.getElem?_eq_getElem (by have := hk.out; omega)⟩
          obtain ⟨ys, hy, m, hm, hsl, h1⟩ := hparts.out i u hu
          have d0 := (hp.bel.cell hr.1).trans (hr.2 i u hu)
          have e1 : (0 : Int) ≤ (i : Int) := by omega
          have e2 : (i : Int) < (k : Int) := by omega
          have hf := take_flat parts i ys hy
          have hle := take_flat_le parts (i + 1)
          have hsum : (parts.take (i + 1)).flatten.length = (n + m) * 2 := by rw [hf, List.length_append, hn, hm, Nat.add_mul]
          have hb : n + m ≤ 1000000 := by have := ht.out; have := htm.out; omega
          have hsl2 := hsl.below hp.bel
          replace hp := Lib.hid hp; replace hsl2 := Lib.hid hsl2; replace h1 := Lib.hid h1; replace hm := Lib.hid hm; replace hf := Lib.hid hf; replace hsum := Lib.hid hsum
          clear hr hu hy hle hn hsl
          go_wp2_with (at_builtin; (refine wpList_append_sl_hp rfl _ _ rfl Try.underlying22 eInfo rfl (by decide) (by decide) hp.out 0 rfl rfl rfl hsl2.out hm.out h1.out (by omega) ?_; intro v4 w4 hp4 hv4; rw [← hf.out] at hp4; replace hp := Lib.hid hp4; clear hp4; obtain ⟨ad4, cp4, rfl⟩ := hv4))
          go_roundw
          case rel => exact ⟨i + 1, n + m, _, _, by go_num, by omega, rfl, hsum.out, hp.out⟩
          case measure => simp [intOf]; omega
        · obtain rfl : k = i := by omega
          rw [List.take_of_length_le (by rw [hk2.out]; exact Nat.le_refl _)] at hp hn
          rw [ht.out] at hn
          obtain rfl : tot = n := by omega
          replace hp := Lib.hid hp
          clear hn
          go_wp2
          go_ret
          exact ⟨_, rfl, ⟨_, _, rfl⟩, hp.out⟩
set_option maxHeartbeats 2000000 in
theorem growK_nil (n : Nat) (hn : n ≤ 1000000) (w : World) :
    Calls Try.prog 42 #[.slice none 0 0, .int .i64 (n : Int)] w fun e w' => ∃ v', e = .returned v' ∧ (∃ ad cap, v' = .slice ad 0 cap) ∧ Hp w [] [.row 41 3 v' 0 []] w' := by
  have hn0 : ¬ (n : Int) < 0 := by omega
  have hw : IntKind.i64.wrap (n : Int) = (n : Int) := by rw [IntKind.wrap_i64]; omega
  by_cases h0 : n = 0
  · subst h0
    have hp := Lib.hid ((Hp.none_ w []).rowNil 41 3)
    clear hw hn hn0
    go_enter Try.func42, Try.ntmps42
    go_wp2
    go_ret
    exact ⟨_, rfl, ⟨_, _, rfl⟩, hp.out⟩
  · obtain ⟨cap, cur, hrun, hcap, hp⟩ := append_zeros (w := w) (W := w) (X := []) (rs := []) (t := 23) (tn := 3) (ty := 23) (kq := .i64) Try.underlying23 Try.underlying3 kInfo rfl (by decide) (by decide) (Hp.none_ w []) n (by omega) (by omega)
    have hpos : (0 : Int) < (n : Int) := by omega
    have hc2 : ((0 : Nat) : Int) ≤ (cap : Int) := by omega
    replace hp := Lib.hid hp; replace hrun := Lib.hid hrun; replace hcap := Lib.hid hcap
    clear hn h0
    go_enter Try.func42, Try.ntmps42
    go_wp2_with (at_builtin; (refine Lib.wpList_append_run _ rfl _ _ _ _ rfl _ _ rfl rfl _ _ hrun.out ?_))
    go_ret
    exact ⟨_, rfl, ⟨_, _, rfl⟩, hp.out⟩
def PartK (w : World) (v : Value) (ys : List Value) : Prop := ∃ m, ys.length = m * 3 ∧ Sl w v m ys ∧ ∀ u ∈ ys, u.oneCell' = true
set_option maxHeartbeats 4000000 in
theorem concatK_any (v : Value) (k : Nat) (vals : List Value) (parts : List (List Value)) (tot : Nat) (hk : vals.length = k) (hk2 : parts.length = k) (hk3 : k ≤ 1000) (ht : parts.flatten.length = tot * 3) (htm : tot ≤ 1000000) (w : World) (h : Sl w v k vals) (hparts : ∀ (i : Nat) (u : Value), vals[i]? = some u → ∃ ys : List Value, parts[i]? = some ys ∧ PartK w u ys) :
    Calls Try.prog 33 #[v] w fun e w' => ∃ v', e = .returned v' ∧ (∃ ad cap, v' = .slice ad tot cap) ∧ Hp w [] [.row 41 3 v' tot parts.flatten] w' := by
  obtain ⟨a, cap, rfl, hmax, h⟩ := h
  have cg := fun (n : Nat) (hn : n ≤ 1000000) W => growK_nil n hn W
  replace hk := Lib.hid hk; replace hk2 := Lib.hid hk2; replace ht := Lib.hid ht; replace htm := Lib.hid htm; replace hparts := Lib.hid hparts; replace h := Lib.hid h; replace cg := Lib.hid cg
  go_enter Try.func33, Try.ntmps33
  go_wp2
  go_loopw [3, 11] (fun s3 s11 wr => ∃ i s : Nat, s11 = .int .i64 (i : Int) ∧ i ≤ k ∧ s3 = .int .i64 (s : Int) ∧ (parts.take i).flatten.length = s * 3 ∧ w = wr) (fun _ s11 _ => k - (intOf s11).toNat)
  case atStart => exact ⟨0, 0, rfl, by omega, rfl, by simp, rfl⟩
  case round =>
    obtain ⟨i, s, rfl, hi, rfl, hs, rfl⟩ := hrel
    by_cases hlt : i < k
    · obtain ⟨b, o, rfl, hr⟩ := h.out.resolve_left (by omega)
      obtain ⟨u, hu⟩ : ∃ u, vals[i]? = some u := ⟨_, List.getElem?_eq_getElem (by have := hk.out; omega)⟩
      obtain ⟨ys, hy, m, hm, hsl, h1⟩ := hparts.out i u hu
      have d0 := hr.2 i u hu
      have e1 : (0 : Int) ≤ (i : Int) := by omega
      have e2 : (i : Int) < (k : Int) := by omega
      have hf := take_flat parts i ys hy
      have hle := take_flat_le parts (i + 1)
      have hsum : (parts.take (i + 1)).flatten.length = (s + m) * 3 := by rw [hf, List.length_append, hs, hm, Nat.add_mul]
      have hb : s + m ≤ 1000000 := by have := ht.out; have := htm.out; omega
      obtain ⟨ad, c, rfl, _, _⟩ := hsl
      have e3 : ¬ (s : Int) + (m : Int) < 0 := by omega
      have e4 : wrap64 ((s : Int) + (m : Int)) = (s : Int) + (m : Int) := by unfold wrap64; omega
      replace hsum := Lib.hid hsum; replace hs := Lib.hid hs
      clear hr hu hy hm h1 hf hle
      go_wp2
      go_roundw
      case rel => exact ⟨i + 1, s + m, by go_num, by omega, by go_num, hsum.out, by first | trivial | rfl⟩
      case measure => simp [intOf]; omega
    · obtain rfl : k = i := by omega
      rw [List.take_of_length_le (by rw [hk2.out]; exact Nat.le_refl _), ht.out] at hs
      obtain rfl : tot = s := by omega
      have cg2 := Lib.hid (cg.out tot htm.out)
      clear hs
      go_wp2_with (go_at_call 42; (with_reducible refine (cg2.out _).mono ?_); rintro e w2 ⟨v2, rfl, ⟨ad2, cp2, rfl⟩, hp⟩; replace hp := Lib.hid hp)
      go_loopw [6, 27] (fun s6 s27 wr => ∃ (i n : Nat) (ad : Option Addr) (cp : Nat), s27 = .int .i64 (i : Int) ∧ i ≤ k ∧ s6 = .slice ad n cp ∧ (parts.take i).flatten.length = n * 3 ∧ Hp w [] [.row 41 3 (.slice ad n cp) n (parts.take i).flatten] wr) (fun _ s27 _ => k - (intOf s27).toNat)
      case atStart => exact ⟨0, 0, _, _, rfl, by omega, rfl, by simp, hp.out⟩
      case round =>
        clear hp
        obtain ⟨i, n, ad3, cp3, rfl, hi2, rfl, hn, hp⟩ := hrel
        by_cases hlt2 : i < k
        · obtain ⟨b, o, rfl, hr⟩ := h.out.resolve_left (by omega)
          obtain ⟨u, hu⟩ : ∃ u, vals[i]? = some u := ⟨_, List.getElem?_eq_getElem (by have := hk.out; omega)⟩
          obtain ⟨ys, hy, m, hm, hsl, h1⟩ := hparts.out i u hu
          have d0 := (hp.bel.cell hr.1).trans (hr.2 i u hu)
          have e1 : (0 : Int) ≤ (i : Int) := by omega
          have e2 : (i : Int) < (k : Int) := by omega
          have hf := take_flat parts i ys hy
          have hle := take_flat_le parts (i + 1)
          have hsum : (parts.take (i + 1)).flatten.length = (n + m) * 3 := by rw [hf, List.length_append, hn, hm, Nat.add_mul]
          have hb : n + m ≤ 1000000 := by have := ht.out; have := htm.out; omega
          have hsl2 := hsl.below hp.bel
          replace hp := Lib.hid hp; replace hsl2 := Lib.hid hsl2; replace h1 := Lib.hid h1; replace hm := Lib.hid hm; replace hf := Lib.hid hf; replace hsum := Lib.hid hsum
          clear hr hu hy hle hn hsl
          go_wp2_with (at_builtin; (refine wpList_append_sl_hp rfl _ _ rfl Try.underlying23 kInfo rfl (by decide) (by decide) hp.out 0 rfl rfl rfl hsl2.out hm.out h1.out (by omega) ?_; intro v4 w4 hp4 hv4; rw [← hf.out] at hp4; replace hp := Lib.hid hp4; clear hp4; obtain ⟨ad4, cp4, rfl⟩ := hv4))
          go_roundw
          case rel => exact ⟨i + 1, n + m, _, _, by go_num, by omega, rfl, hsum.out, hp.out⟩
          case measure => simp [intOf]; omega
        · obtain rfl : k = i := by omega
          rw [List.take_of_length_le (by rw [hk2.out]; exact Nat.le_refl _)] at hp hn
          rw [ht.out] at hn
          obtain rfl : tot = n := by omega
          replace hp := Lib.hid hp
          clear hn
          go_wp2
          go_ret
          exact ⟨_, rfl, ⟨_, _, rfl⟩, hp.out⟩
set_option maxHeartbeats 4000000 in
/-- two nodes, one behind the other -/
theorem both_any (ev kv ev2 kv2 : Value) (E E2 : List En) (K K2 : List Kd) (w : World) (he : Sl w ev E.length (enC E)) (hk : Sl w kv K.length (kdC K)) (he2 : Sl w ev2 E2.length (enC E2)) (hk2 : Sl w kv2 K2.length (kdC K2)) (hE : E.length ≤ 1000) (hK : K.length ≤ 1000) (hE2 : E2.length ≤ 1000) (hK2 : K2.length ≤ 1000) :
    Calls Try.prog 16 #[nodV ev kv, nodV ev2 kv2] w fun e w' => ∃ ev' kv', e = .returned (nodV ev' kv') ∧ Sl w' ev' (E.length + E2.length) (enC (E ++ E2)) ∧ Sl w' kv' (K.length + K2.length) (kdC (K ++ K2)) ∧ Below w.heap.size w w' := by
  have hp0 := (((Hp.none_ w []).alloc #[ev, kv] 25).alloc #[ev2, kv2] 25).alloc #[.slice none 0 0, .slice none 0 0] 25
  have hq : ∀ (u : World) o, (u.alloc o).heap.size = u.heap.size + 1 := fun u o => by simp
  simp only [hq] at hp0
  clear hq
  have pE : PartE w ev (enC E) := ⟨_, enC_len E, he, enC_one E⟩
  have pE2 : PartE w ev2 (enC E2) := ⟨_, enC_len E2, he2, enC_one E2⟩
  have pK : PartK w kv (kdC K) := ⟨_, kdC_len K, hk, kdC_one K⟩
  have pK2 : PartK w kv2 (kdC K2) := ⟨_, kdC_len K2, hk2, kdC_one K2⟩
  have k1 : ∀ W' q, Below w.heap.size w W' → W'.cell? ⟨q, 0, none⟩ = some ev → W'.cell? ⟨q, 1, none⟩ = some ev2 → q < W'.heap.size → Calls Try.prog 32 #[.slice (some ⟨q, 0, none⟩) 2 2] W' fun e w' => ∃ v', e = .returned v' ∧ (∃ ad cap, v' = .slice ad (E.length + E2.length) cap) ∧ Hp W' [] [.row 43 2 v' (E.length + E2.length) (enC (E ++ E2))] w' := fun W' q hb c0 c1 hq => by
    have := concatE_any (.slice (some ⟨q, 0, none⟩) 2 2) 2 [ev, ev2] [enC E, enC E2] (E.length + E2.length) rfl rfl (by decide) (by simp [enC_len]; omega) (by omega) W' ⟨_, _, rfl, by omega, Or.inr ⟨q, 0, rfl, hq, fun j v hv => by
      match j, hv with
      | 0, hv => simp at hv; subst hv; simpa using c0
      | 1, hv => simp at hv; subst hv; simpa using c1⟩⟩ (fun i u hu => by
      match i, hu with
      | 0, hu => simp at hu; subst hu; exact ⟨_, rfl, _, pE.choose_spec.1, pE.choose_spec.2.1.below hb, pE.choose_spec.2.2⟩
      | 1, hu => simp at hu; subst hu; exact ⟨_, rfl, _, pE2.choose_spec.1, pE2.choose_spec.2.1.below hb, pE2.choose_spec.2.2⟩)
    rw [enC_append]; simpa using this
  have k2 : ∀ W' q, Below w.heap.size w W' → W'.cell? ⟨q, 0, none⟩ = some kv → W'.cell? ⟨q, 1, none⟩ = some kv2 → q < W'.heap.size → Calls Try.prog 33 #[.slice (some ⟨q, 0, none⟩) 2 2] W' fun e w' => ∃ v', e = .returned v' ∧ (∃ ad cap, v' = .slice ad (K.length + K2.length) cap) ∧ Hp W' [] [.row 41 3 v' (K.length + K2.length) (kdC (K ++ K2))] w' := fun W' q hb c0 c1 hq => by
    have := concatK_any (.slice (some ⟨q, 0, none⟩) 2 2) 2 [kv, kv2] [kdC K, kdC K2] (K.length + K2.length) rfl rfl (by decide) (by simp [kdC_len]; omega) (by omega) W' ⟨_, _, rfl, by omega, Or.inr ⟨q, 0, rfl, hq, fun j v hv => by
      match j, hv with
      | 0, hv => simp at hv; subst hv; simpa using c0
      | 1, hv => simp at hv; subst hv; simpa using c1⟩⟩ (fun i u hu => by
      match i, hu with
      | 0, hu => simp at hu; subst hu; exact ⟨_, rfl, _, pK.choose_spec.1, pK.choose_spec.2.1.below hb, pK.choose_spec.2.2⟩
      | 1, hu => simp at hu; subst hu; exact ⟨_, rfl, _, pK2.choose_spec.1, pK2.choose_spec.2.1.below hb, pK2.choose_spec.2.2⟩)
    rw [kdC_append]; simpa using this
  have hb3 : E.length + E2.length ≤ 140737488355328 := by omega
  have hb4 : K.length + K2.length ≤ 140737488355328 := by omega
  obtain ⟨a, ac, rfl, -, -⟩ := he
  obtain ⟨a2, ac2, rfl, -, -⟩ := he2
  obtain ⟨b, bc, rfl, -, -⟩ := hk
  obtain ⟨b2, bc2, rfl, -, -⟩ := hk2
  clear pE pE2 pK pK2 hE hK hE2 hK2
  generalize E.length + E2.length = d1 at hb3 k1 ⊢
  generalize K.length + K2.length = d2 at hb4 k2 ⊢
  generalize enC (E ++ E2) = y1 at k1 ⊢
  generalize kdC (K ++ K2) = y2 at k2 ⊢
  generalize E.length = n1 at *
  generalize E2.length = n2 at *
  generalize K.length = m1 at *
  generalize K2.length = m2 at *
  replace k1 := Lib.hid k1; replace k2 := Lib.hid k2; replace hb3 := Lib.hid hb3; replace hb4 := Lib.hid hb4; replace hp0 := Lib.hid hp0
  unfold nodV
  go_enter Try.func16, Try.ntmps16
  go_upto_region 1 with fail
  generalize ((w.alloc _).alloc _).alloc _ = W at hp0 ⊢
  generalize hq4 : w.heap.size + 1 + 1 = q4 at hp0 ⊢
  generalize hq3 : w.heap.size + 1 = q3 at hp0 ⊢
  generalize hq2 : w.heap.size = q2 at hp0 ⊢
  clear hq4 hq3 hq2
  have hcs : ∀ (rs : List Rs) (i j : Nat) (W' : World), Hp w [] rs W' → rs[i]? = some (.box q2 #[.slice a n1 ac, .slice b m1 bc] 25) → rs[j]? = some (.box q3 #[.slice a2 n2 ac2, .slice b2 m2 bc2] 25) → W'.cell? ⟨q2, 0, none⟩ = some (.slice a n1 ac) ∧ W'.cell? ⟨q2, 1, none⟩ = some (.slice b m1 bc) ∧ W'.cell? ⟨q3, 0, none⟩ = some (.slice a2 n2 ac2) ∧ W'.cell? ⟨q3, 1, none⟩ = some (.slice b2 m2 bc2) := fun rs i j W' h hi hj => ⟨(h.cell hi 0).trans rfl, (h.cell hi 1).trans rfl, (h.cell hj 0).trans rfl, (h.cell hj 1).trans rfl⟩
  replace hcs := Lib.hid hcs
  have hp := hp0
  clear hp0
  refine wp_region_noPanic ?_; refine wp_region_held_drew (S := (fun W' => W'.cell? ⟨q2, 0, none⟩ = some (.slice a n1 ac) ∧ W'.cell? ⟨q2, 1, none⟩ = some (.slice b m1 bc) ∧ W'.cell? ⟨q3, 0, none⟩ = some (.slice a2 n2 ac2) ∧ W'.cell? ⟨q3, 1, none⟩ = some (.slice b2 m2 bc2))) (by kernel_rfl) ?_ (fun hHeld => ?_); (focus ((try dsimp only); (first | exact hcs.out _ 2 1 _ hp.out rfl rfl | exact hcs.out _ 3 2 _ hp.out rfl rfl | exact hcs.out _ 4 3 _ hp.out rfl rfl | exact hcs.out _ 5 4 _ hp.out rfl rfl | exact hcs.out _ 6 5 _ hp.out rfl rfl | exact hcs.out _ 7 6 _ hp.out rfl rfl | exact hcs.out _ 2 1 _ hp.out.drew rfl rfl | exact hcs.out _ 3 2 _ hp.out.drew rfl rfl | exact hcs.out _ 4 3 _ hp.out.drew rfl rfl | exact hcs.out _ 5 4 _ hp.out.drew rfl rfl | exact hcs.out _ 6 5 _ hp.out.drew rfl rfl | exact hcs.out _ 7 6 _ hp.out.drew rfl rfl); done))
  (refine take_t (i := 0) (d := 5) (oi := _) (v := ?_) rfl rfl (by kernel_rfl) (by kernel_rfl) (by kernel_rfl) (by rfl) ?_ (by assumption) ?_; rotate_left; (focus (intro w0 hSw; (try dsimp only at hSw); go_simp; (try with_reducible rfl); done)); ((try simp only [Act.put, List.setIfInBounds_toArray]); (try dsimp only [List.set_cons_zero, List.set_cons_succ]))); (refine take_t (i := 1) (d := 6) (oi := _) (v := ?_) rfl rfl (by kernel_rfl) (by kernel_rfl) (by kernel_rfl) (by rfl) ?_ (by assumption) ?_; rotate_left; (focus (intro w0 hSw; (try dsimp only at hSw); go_simp; (try with_reducible rfl); done)); ((try simp only [Act.put, List.setIfInBounds_toArray]); (try dsimp only [List.set_cons_zero, List.set_cons_succ]))); (refine take_t (i := 2) (d := 7) (oi := _) (v := ?_) rfl rfl (by kernel_rfl) (by kernel_rfl) (by kernel_rfl) (by rfl) ?_ (by assumption) ?_; rotate_left; (focus (intro w0 hSw; (try dsimp only at hSw); go_simp; (try with_reducible rfl); done)); ((try simp only [Act.put, List.setIfInBounds_toArray]); (try dsimp only [List.set_cons_zero, List.set_cons_succ]))); (refine take_t (i := 3) (d := 8) (oi := _) (v := ?_) rfl rfl (by kernel_rfl) (by kernel_rfl) (by kernel_rfl) (by rfl) ?_ (by assumption) ?_; rotate_left; (focus (intro w0 hSw; (try dsimp only at hSw); go_simp; (try with_reducible rfl); done)); ((try simp only [Act.put, List.setIfInBounds_toArray]); (try dsimp only [List.set_cons_zero, List.set_cons_succ]))); (refine take_t (i := 6) (d := 11) (oi := _) (v := ?_) rfl rfl (by kernel_rfl) (by kernel_rfl) (by kernel_rfl) (by rfl) ?_ (by assumption) ?_; rotate_left; (focus (intro w0 hSw; (try dsimp only at hSw); go_simp; (try with_reducible rfl); done)); ((try simp only [Act.put, List.setIfInBounds_toArray]); (try dsimp only [List.set_cons_zero, List.set_cons_succ]))); (refine take_t (i := 7) (d := 12) (oi := _) (v := ?_) rfl rfl (by kernel_rfl) (by kernel_rfl) (by kernel_rfl) (by rfl) ?_ (by assumption) ?_; rotate_left; (focus (intro w0 hSw; (try dsimp only at hSw); go_simp; (try with_reducible rfl); done)); ((try simp only [Act.put, List.setIfInBounds_toArray]); (try dsimp only [List.set_cons_zero, List.set_cons_succ]))); (refine take_t (i := 8) (d := 13) (oi := _) (v := ?_) rfl rfl (by kernel_rfl) (by kernel_rfl) (by kernel_rfl) (by rfl) ?_ (by assumption) ?_; rotate_left; (focus (intro w0 hSw; (try dsimp only at hSw); go_simp; (try with_reducible rfl); done)); ((try simp only [Act.put, List.setIfInBounds_toArray]); (try dsimp only [List.set_cons_zero, List.set_cons_succ]))); (refine take_t (i := 9) (d := 14) (oi := _) (v := ?_) rfl rfl (by kernel_rfl) (by kernel_rfl) (by kernel_rfl) (by rfl) ?_ (by assumption) ?_; rotate_left; (focus (intro w0 hSw; (try dsimp only at hSw); go_simp; (try with_reducible rfl); done)); ((try simp only [Act.put, List.setIfInBounds_toArray]); (try dsimp only [List.set_cons_zero, List.set_cons_succ])))
  refine wpAnyH_ready (rs := [4, 10]) (by kernel_rfl) (by simp) ?_; refine AllReadyH.cons (o := _) rfl (fun K' hK => ?_) (AllReadyH.cons (o := _) rfl (fun K' hK => ?_) AllReadyH.nil)
  · go_simp; (replace hp := Lib.hid (hp.out.alloc #[.slice a n1 ac, .slice a2 n2 ac2] 22).drew); (try dsimp only); refine hK.out _ _ ?_ (fun hHeld2 => ?_); (focus ((try dsimp only); (first | exact hcs.out _ 2 1 _ hp.out rfl rfl | exact hcs.out _ 3 2 _ hp.out rfl rfl | exact hcs.out _ 4 3 _ hp.out rfl rfl | exact hcs.out _ 5 4 _ hp.out rfl rfl | exact hcs.out _ 6 5 _ hp.out rfl rfl | exact hcs.out _ 7 6 _ hp.out rfl rfl | exact hcs.out _ 2 1 _ hp.out.drew rfl rfl | exact hcs.out _ 3 2 _ hp.out.drew rfl rfl | exact hcs.out _ 4 3 _ hp.out.drew rfl rfl | exact hcs.out _ 5 4 _ hp.out.drew rfl rfl | exact hcs.out _ 6 5 _ hp.out.drew rfl rfl | exact hcs.out _ 7 6 _ hp.out.drew rfl rfl); done)); clear hK K'; clear hHeld; have hHeld := hHeld2; clear hHeld2; ((try simp only [Act.put, List.setIfInBounds_toArray]); (try dsimp only [List.set_cons_zero, List.set_cons_succ]))
    generalize hW2 : World.drew (World.alloc _ _) = W2 at hp hHeld ⊢; clear hW2; generalize hqe : W.heap.size = qe at hp ⊢; clear hqe
    refine wpAnyH_ready (rs := [5, 10]) (by kernel_rfl) (by simp) ?_; refine AllReadyH.cons (o := _) rfl (fun K' hK => ?_) (AllReadyH.cons (o := _) rfl (fun K' hK => ?_) AllReadyH.nil)
    · go_simp; (go_at_call 32; (with_reducible refine (k1.out _ _ hp.out.bel ((hp.out.cell (i := 0) rfl 0).trans rfl) ((hp.out.cell (i := 0) rfl 1).trans rfl) (hp.out.lt (i := 0) rfl)).mono ?_); rintro e w2 ⟨u1, rfl, ⟨ad1, cp1, rfl⟩, h2⟩; replace hp := Lib.hid (hp.out.take h2); clear h2); (try dsimp only); refine hK.out _ _ ?_ (fun hHeld2 => ?_); (focus ((try dsimp only); (first | exact hcs.out _ 2 1 _ hp.out rfl rfl | exact hcs.out _ 3 2 _ hp.out rfl rfl | exact hcs.out _ 4 3 _ hp.out rfl rfl | exact hcs.out _ 5 4 _ hp.out rfl rfl | exact hcs.out _ 6 5 _ hp.out rfl rfl | exact hcs.out _ 7 6 _ hp.out rfl rfl | exact hcs.out _ 2 1 _ hp.out.drew rfl rfl | exact hcs.out _ 3 2 _ hp.out.drew rfl rfl | exact hcs.out _ 4 3 _ hp.out.drew rfl rfl | exact hcs.out _ 5 4 _ hp.out.drew rfl rfl | exact hcs.out _ 6 5 _ hp.out.drew rfl rfl | exact hcs.out _ 7 6 _ hp.out.drew rfl rfl); done)); clear hK K'; clear hHeld; have hHeld := hHeld2; clear hHeld2; ((try simp only [Act.put, List.setIfInBounds_toArray]); (try dsimp only [List.set_cons_zero, List.set_cons_succ]))
      (refine wpAnyH_ready (rs := [10]) (by kernel_rfl) (by simp) ?_; refine AllReadyH.cons (o := _) rfl (fun K' hK => ?_) AllReadyH.nil; go_simp; (replace hp := Lib.hid (hp.out.alloc #[.slice b m1 bc, .slice b2 m2 bc2] 23)); (try dsimp only); refine hK.out _ _ ?_ (fun hHeld2 => ?_); (focus ((try dsimp only); (first | exact hcs.out _ 2 1 _ hp.out rfl rfl | exact hcs.out _ 3 2 _ hp.out rfl rfl | exact hcs.out _ 4 3 _ hp.out rfl rfl | exact hcs.out _ 5 4 _ hp.out rfl rfl | exact hcs.out _ 6 5 _ hp.out rfl rfl | exact hcs.out _ 7 6 _ hp.out rfl rfl | exact hcs.out _ 2 1 _ hp.out.drew rfl rfl | exact hcs.out _ 3 2 _ hp.out.drew rfl rfl | exact hcs.out _ 4 3 _ hp.out.drew rfl rfl | exact hcs.out _ 5 4 _ hp.out.drew rfl rfl | exact hcs.out _ 6 5 _ hp.out.drew rfl rfl | exact hcs.out _ 7 6 _ hp.out.drew rfl rfl); done)); clear hK K'; clear hHeld; have hHeld := hHeld2; clear hHeld2; ((try simp only [Act.put, List.setIfInBounds_toArray]); (try dsimp only [List.set_cons_zero, List.set_cons_succ]))); (refine wpAnyH_ready (rs := [11]) (by kernel_rfl) (by simp) ?_; refine AllReadyH.cons (o := _) rfl (fun K' hK => ?_) AllReadyH.nil; go_simp; (go_at_call 33; (with_reducible refine (k2.out _ _ hp.out.bel ((hp.out.cell (i := 0) rfl 0).trans rfl) ((hp.out.cell (i := 0) rfl 1).trans rfl) (hp.out.lt (i := 0) rfl)).mono ?_); rintro e w2 ⟨u2, rfl, ⟨ad2, cp2, rfl⟩, h2⟩; replace hp := Lib.hid (hp.out.take h2); clear h2; have z0 := hp.out.free (i := 4) rfl 0; have z1 := hp.out.free (i := 4) rfl 1; have y0 := hp.out.cell (i := 4) rfl 0; have y1 := hp.out.cell (i := 4) rfl 1; simp at y0 y1); (try dsimp only); refine hK.out _ _ ?_ (fun hHeld2 => ?_); (focus ((try dsimp only); (first | exact hcs.out _ 2 1 _ hp.out rfl rfl | exact hcs.out _ 3 2 _ hp.out rfl rfl | exact hcs.out _ 4 3 _ hp.out rfl rfl | exact hcs.out _ 5 4 _ hp.out rfl rfl | exact hcs.out _ 6 5 _ hp.out rfl rfl | exact hcs.out _ 7 6 _ hp.out rfl rfl | exact hcs.out _ 2 1 _ hp.out.drew rfl rfl | exact hcs.out _ 3 2 _ hp.out.drew rfl rfl | exact hcs.out _ 4 3 _ hp.out.drew rfl rfl | exact hcs.out _ 5 4 _ hp.out.drew rfl rfl | exact hcs.out _ 6 5 _ hp.out.drew rfl rfl | exact hcs.out _ 7 6 _ hp.out.drew rfl rfl); done)); clear hK K'; clear hHeld; have hHeld := hHeld2; clear hHeld2; ((try simp only [Act.put, List.setIfInBounds_toArray]); (try dsimp only [List.set_cons_zero, List.set_cons_succ]))); (refine take_t (i := 12) (d := 17) (oi := _) (v := ?_) rfl rfl (by kernel_rfl) (by kernel_rfl) (by kernel_rfl) (by rfl) ?_ (by assumption) ?_; rotate_left; (focus (intro w0 hSw; (try dsimp only at hSw); go_simp; (try with_reducible rfl); done)); ((try simp only [Act.put, List.setIfInBounds_toArray]); (try dsimp only [List.set_cons_zero, List.set_cons_succ]))); (refine wpAnyH_ready (rs := [13]) (by kernel_rfl) (by simp) ?_; refine AllReadyH.cons (o := _) rfl (fun K' hK => ?_) AllReadyH.nil; go_simp; (replace hp := Lib.hid ((hp.out.put (i := 4) rfl 0 (.slice ad1 d1 cp1)).put (i := 4) rfl 1 (.slice ad2 d2 cp2))); (try dsimp only); refine hK.out _ _ ?_ (fun hHeld2 => ?_); (focus ((try dsimp only); (first | exact hcs.out _ 2 1 _ hp.out rfl rfl | exact hcs.out _ 3 2 _ hp.out rfl rfl | exact hcs.out _ 4 3 _ hp.out rfl rfl | exact hcs.out _ 5 4 _ hp.out rfl rfl | exact hcs.out _ 6 5 _ hp.out rfl rfl | exact hcs.out _ 7 6 _ hp.out rfl rfl | exact hcs.out _ 2 1 _ hp.out.drew rfl rfl | exact hcs.out _ 3 2 _ hp.out.drew rfl rfl | exact hcs.out _ 4 3 _ hp.out.drew rfl rfl | exact hcs.out _ 5 4 _ hp.out.drew rfl rfl | exact hcs.out _ 6 5 _ hp.out.drew rfl rfl | exact hcs.out _ 7 6 _ hp.out.drew rfl rfl); done)); clear hK K'; clear hHeld; have hHeld := hHeld2; clear hHeld2; ((try simp only [Act.put, List.setIfInBounds_toArray]); (try dsimp only [List.set_cons_zero, List.set_cons_succ])))
      refine wpAnyH_done (by kernel_rfl) ?_ _; refine NoPanic.normal ?_
      generalize (World.setCell _ _ _).setCell _ _ = w3 at hp hHeld ⊢
      have f0 := hp.out.cell (i := 4) rfl 0; have f1 := hp.out.cell (i := 4) rfl 1
      simp at f0 f1
      clear z0 z1 y0 y1 hHeld
      go_wp2
      (try simp only [Exit.inBlock, Exit.then])
      refine bodyPost_ret (v := .agg #[.slice ad1 d1 cp1, .slice ad2 d2 cp2]) (results_cell_row rfl _ _ q4 25 #[.slice ad1 d1 cp1, .slice ad2 d2 cp2] (0, 0) _ rfl (hp.out.box (i := 4) rfl) Try.underlying25 rfl (by kernel_rfl)) rfl ?_
      exact ⟨_, _, rfl, hp.out.sl (i := 2) rfl hb3.out, hp.out.sl (i := 0) rfl hb4.out, hp.out.bel⟩
    · go_simp; (replace hp := Lib.hid (hp.out.alloc #[.slice b m1 bc, .slice b2 m2 bc2] 23)); (try dsimp only); refine hK.out _ _ ?_ (fun hHeld2 => ?_); (focus ((try dsimp only); (first | exact hcs.out _ 2 1 _ hp.out rfl rfl | exact hcs.out _ 3 2 _ hp.out rfl rfl | exact hcs.out _ 4 3 _ hp.out rfl rfl | exact hcs.out _ 5 4 _ hp.out rfl rfl | exact hcs.out _ 6 5 _ hp.out rfl rfl | exact hcs.out _ 7 6 _ hp.out rfl rfl | exact hcs.out _ 2 1 _ hp.out.drew rfl rfl | exact hcs.out _ 3 2 _ hp.out.drew rfl rfl | exact hcs.out _ 4 3 _ hp.out.drew rfl rfl | exact hcs.out _ 5 4 _ hp.out.drew rfl rfl | exact hcs.out _ 6 5 _ hp.out.drew rfl rfl | exact hcs.out _ 7 6 _ hp.out.drew rfl rfl); done)); clear hK K'; clear hHeld; have hHeld := hHeld2; clear hHeld2; ((try simp only [Act.put, List.setIfInBounds_toArray]); (try dsimp only [List.set_cons_zero, List.set_cons_succ]))
      (refine wpAnyH_ready (rs := [5]) (by kernel_rfl) (by simp) ?_; refine AllReadyH.cons (o := _) rfl (fun K' hK => ?_) AllReadyH.nil; go_simp; (go_at_call 32; (with_reducible refine (k1.out _ _ hp.out.bel ((hp.out.cell (i := 1) rfl 0).trans rfl) ((hp.out.cell (i := 1) rfl 1).trans rfl) (hp.out.lt (i := 1) rfl)).mono ?_); rintro e w2 ⟨u1, rfl, ⟨ad1, cp1, rfl⟩, h2⟩; replace hp := Lib.hid (hp.out.take h2); clear h2); (try dsimp only); refine hK.out _ _ ?_ (fun hHeld2 => ?_); (focus ((try dsimp only); (first | exact hcs.out _ 2 1 _ hp.out rfl rfl | exact hcs.out _ 3 2 _ hp.out rfl rfl | exact hcs.out _ 4 3 _ hp.out rfl rfl | exact hcs.out _ 5 4 _ hp.out rfl rfl | exact hcs.out _ 6 5 _ hp.out rfl rfl | exact hcs.out _ 7 6 _ hp.out rfl rfl | exact hcs.out _ 2 1 _ hp.out.drew rfl rfl | exact hcs.out _ 3 2 _ hp.out.drew rfl rfl | exact hcs.out _ 4 3 _ hp.out.drew rfl rfl | exact hcs.out _ 5 4 _ hp.out.drew rfl rfl | exact hcs.out _ 6 5 _ hp.out.drew rfl rfl | exact hcs.out _ 7 6 _ hp.out.drew rfl rfl); done)); clear hK K'; clear hHeld; have hHeld := hHeld2; clear hHeld2; ((try simp only [Act.put, List.setIfInBounds_toArray]); (try dsimp only [List.set_cons_zero, List.set_cons_succ]))); (refine wpAnyH_ready (rs := [11]) (by kernel_rfl) (by simp) ?_; refine AllReadyH.cons (o := _) rfl (fun K' hK => ?_) AllReadyH.nil; go_simp; (go_at_call 33; (with_reducible refine (k2.out _ _ hp.out.bel ((hp.out.cell (i := 1) rfl 0).trans rfl) ((hp.out.cell (i := 1) rfl 1).trans rfl) (hp.out.lt (i := 1) rfl)).mono ?_); rintro e w2 ⟨u2, rfl, ⟨ad2, cp2, rfl⟩, h2⟩; replace hp := Lib.hid (hp.out.take h2); clear h2; have z0 := hp.out.free (i := 4) rfl 0; have z1 := hp.out.free (i := 4) rfl 1; have y0 := hp.out.cell (i := 4) rfl 0; have y1 := hp.out.cell (i := 4) rfl 1; simp at y0 y1); (try dsimp only); refine hK.out _ _ ?_ (fun hHeld2 => ?_); (focus ((try dsimp only); (first | exact hcs.out _ 2 1 _ hp.out rfl rfl | exact hcs.out _ 3 2 _ hp.out rfl rfl | exact hcs.out _ 4 3 _ hp.out rfl rfl | exact hcs.out _ 5 4 _ hp.out rfl rfl | exact hcs.out _ 6 5 _ hp.out rfl rfl | exact hcs.out _ 7 6 _ hp.out rfl rfl | exact hcs.out _ 2 1 _ hp.out.drew rfl rfl | exact hcs.out _ 3 2 _ hp.out.drew rfl rfl | exact hcs.out _ 4 3 _ hp.out.drew rfl rfl | exact hcs.out _ 5 4 _ hp.out.drew rfl rfl | exact hcs.out _ 6 5 _ hp.out.drew rfl rfl | exact hcs.out _ 7 6 _ hp.out.drew rfl rfl); done)); clear hK K'; clear hHeld; have hHeld := hHeld2; clear hHeld2; ((try simp only [Act.put, List.setIfInBounds_toArray]); (try dsimp only [List.set_cons_zero, List.set_cons_succ]))); (refine take_t (i := 12) (d := 17) (oi := _) (v := ?_) rfl rfl (by kernel_rfl) (by kernel_rfl) (by kernel_rfl) (by rfl) ?_ (by assumption) ?_; rotate_left; (focus (intro w0 hSw; (try dsimp only at hSw); go_simp; (try with_reducible rfl); done)); ((try simp only [Act.put, List.setIfInBounds_toArray]); (try dsimp only [List.set_cons_zero, List.set_cons_succ]))); (refine wpAnyH_ready (rs := [13]) (by kernel_rfl) (by simp) ?_; refine AllReadyH.cons (o := _) rfl (fun K' hK => ?_) AllReadyH.nil; go_simp; (replace hp := Lib.hid ((hp.out.put (i := 4) rfl 0 (.slice ad1 d1 cp1)).put (i := 4) rfl 1 (.slice ad2 d2 cp2))); (try dsimp only); refine hK.out _ _ ?_ (fun hHeld2 => ?_); (focus ((try dsimp only); (first | exact hcs.out _ 2 1 _ hp.out rfl rfl | exact hcs.out _ 3 2 _ hp.out rfl rfl | exact hcs.out _ 4 3 _ hp.out rfl rfl | exact hcs.out _ 5 4 _ hp.out rfl rfl | exact hcs.out _ 6 5 _ hp.out rfl rfl | exact hcs.out _ 7 6 _ hp.out rfl rfl | exact hcs.out _ 2 1 _ hp.out.drew rfl rfl | exact hcs.out _ 3 2 _ hp.out.drew rfl rfl | exact hcs.out _ 4 3 _ hp.out.drew rfl rfl | exact hcs.out _ 5 4 _ hp.out.drew rfl rfl | exact hcs.out _ 6 5 _ hp.out.drew rfl rfl | exact hcs.out _ 7 6 _ hp.out.drew rfl rfl); done)); clear hK K'; clear hHeld; have hHeld := hHeld2; clear hHeld2; ((try simp only [Act.put, List.setIfInBounds_toArray]); (try dsimp only [List.set_cons_zero, List.set_cons_succ])))
      refine wpAnyH_done (by kernel_rfl) ?_ _; refine NoPanic.normal ?_
      generalize (World.setCell _ _ _).setCell _ _ = w3 at hp hHeld ⊢
      have f0 := hp.out.cell (i := 4) rfl 0; have f1 := hp.out.cell (i := 4) rfl 1
      simp at f0 f1
      clear z0 z1 y0 y1 hHeld
      go_wp2
      (try simp only [Exit.inBlock, Exit.then])
      refine bodyPost_ret (v := .agg #[.slice ad1 d1 cp1, .slice ad2 d2 cp2]) (results_cell_row rfl _ _ q4 25 #[.slice ad1 d1 cp1, .slice ad2 d2 cp2] (0, 0) _ rfl (hp.out.box (i := 4) rfl) Try.underlying25 rfl (by kernel_rfl)) rfl ?_
      exact ⟨_, _, rfl, hp.out.sl (i := 1) rfl hb3.out, hp.out.sl (i := 0) rfl hb4.out, hp.out.bel⟩
  · go_simp; (replace hp := Lib.hid (hp.out.alloc #[.slice b m1 bc, .slice b2 m2 bc2] 23).drew); (try dsimp only); refine hK.out _ _ ?_ (fun hHeld2 => ?_); (focus ((try dsimp only); (first | exact hcs.out _ 2 1 _ hp.out rfl rfl | exact hcs.out _ 3 2 _ hp.out rfl rfl | exact hcs.out _ 4 3 _ hp.out rfl rfl | exact hcs.out _ 5 4 _ hp.out rfl rfl | exact hcs.out _ 6 5 _ hp.out rfl rfl | exact hcs.out _ 7 6 _ hp.out rfl rfl | exact hcs.out _ 2 1 _ hp.out.drew rfl rfl | exact hcs.out _ 3 2 _ hp.out.drew rfl rfl | exact hcs.out _ 4 3 _ hp.out.drew rfl rfl | exact hcs.out _ 5 4 _ hp.out.drew rfl rfl | exact hcs.out _ 6 5 _ hp.out.drew rfl rfl | exact hcs.out _ 7 6 _ hp.out.drew rfl rfl); done)); clear hK K'; clear hHeld; have hHeld := hHeld2; clear hHeld2; ((try simp only [Act.put, List.setIfInBounds_toArray]); (try dsimp only [List.set_cons_zero, List.set_cons_succ]))
    generalize hW2 : World.drew (World.alloc _ _) = W2 at hp hHeld ⊢; clear hW2; generalize hqe : W.heap.size = qe at hp ⊢; clear hqe
    (refine wpAnyH_ready (rs := [4]) (by kernel_rfl) (by simp) ?_; refine AllReadyH.cons (o := _) rfl (fun K' hK => ?_) AllReadyH.nil; go_simp; (replace hp := Lib.hid (hp.out.alloc #[.slice a n1 ac, .slice a2 n2 ac2] 22)); (try dsimp only); refine hK.out _ _ ?_ (fun hHeld2 => ?_); (focus ((try dsimp only); (first | exact hcs.out _ 2 1 _ hp.out rfl rfl | exact hcs.out _ 3 2 _ hp.out rfl rfl | exact hcs.out _ 4 3 _ hp.out rfl rfl | exact hcs.out _ 5 4 _ hp.out rfl rfl | exact hcs.out _ 6 5 _ hp.out rfl rfl | exact hcs.out _ 7 6 _ hp.out rfl rfl | exact hcs.out _ 2 1 _ hp.out.drew rfl rfl | exact hcs.out _ 3 2 _ hp.out.drew rfl rfl | exact hcs.out _ 4 3 _ hp.out.drew rfl rfl | exact hcs.out _ 5 4 _ hp.out.drew rfl rfl | exact hcs.out _ 6 5 _ hp.out.drew rfl rfl | exact hcs.out _ 7 6 _ hp.out.drew rfl rfl); done)); clear hK K'; clear hHeld; have hHeld := hHeld2; clear hHeld2; ((try simp only [Act.put, List.setIfInBounds_toArray]); (try dsimp only [List.set_cons_zero, List.set_cons_succ]))); (refine wpAnyH_ready (rs := [5]) (by kernel_rfl) (by simp) ?_; refine AllReadyH.cons (o := _) rfl (fun K' hK => ?_) AllReadyH.nil; go_simp; (go_at_call 32; (with_reducible refine (k1.out _ _ hp.out.bel ((hp.out.cell (i := 0) rfl 0).trans rfl) ((hp.out.cell (i := 0) rfl 1).trans rfl) (hp.out.lt (i := 0) rfl)).mono ?_); rintro e w2 ⟨u1, rfl, ⟨ad1, cp1, rfl⟩, h2⟩; replace hp := Lib.hid (hp.out.take h2); clear h2); (try dsimp only); refine hK.out _ _ ?_ (fun hHeld2 => ?_); (focus ((try dsimp only); (first | exact hcs.out _ 2 1 _ hp.out rfl rfl | exact hcs.out _ 3 2 _ hp.out rfl rfl | exact hcs.out _ 4 3 _ hp.out rfl rfl | exact hcs.out _ 5 4 _ hp.out rfl rfl | exact hcs.out _ 6 5 _ hp.out rfl rfl | exact hcs.out _ 7 6 _ hp.out rfl rfl | exact hcs.out _ 2 1 _ hp.out.drew rfl rfl | exact hcs.out _ 3 2 _ hp.out.drew rfl rfl | exact hcs.out _ 4 3 _ hp.out.drew rfl rfl | exact hcs.out _ 5 4 _ hp.out.drew rfl rfl | exact hcs.out _ 6 5 _ hp.out.drew rfl rfl | exact hcs.out _ 7 6 _ hp.out.drew rfl rfl); done)); clear hK K'; clear hHeld; have hHeld := hHeld2; clear hHeld2; ((try simp only [Act.put, List.setIfInBounds_toArray]); (try dsimp only [List.set_cons_zero, List.set_cons_succ]))); (refine wpAnyH_ready (rs := [11]) (by kernel_rfl) (by simp) ?_; refine AllReadyH.cons (o := _) rfl (fun K' hK => ?_) AllReadyH.nil; go_simp; (go_at_call 33; (with_reducible refine (k2.out _ _ hp.out.bel ((hp.out.cell (i := 2) rfl 0).trans rfl) ((hp.out.cell (i := 2) rfl 1).trans rfl) (hp.out.lt (i := 2) rfl)).mono ?_); rintro e w2 ⟨u2, rfl, ⟨ad2, cp2, rfl⟩, h2⟩; replace hp := Lib.hid (hp.out.take h2); clear h2; have z0 := hp.out.free (i := 4) rfl 0; have z1 := hp.out.free (i := 4) rfl 1; have y0 := hp.out.cell (i := 4) rfl 0; have y1 := hp.out.cell (i := 4) rfl 1; simp at y0 y1); (try dsimp only); refine hK.out _ _ ?_ (fun hHeld2 => ?_); (focus ((try dsimp only); (first | exact hcs.out _ 2 1 _ hp.out rfl rfl | exact hcs.out _ 3 2 _ hp.out rfl rfl | exact hcs.out _ 4 3 _ hp.out rfl rfl | exact hcs.out _ 5 4 _ hp.out rfl rfl | exact hcs.out _ 6 5 _ hp.out rfl rfl | exact hcs.out _ 7 6 _ hp.out rfl rfl | exact hcs.out _ 2 1 _ hp.out.drew rfl rfl | exact hcs.out _ 3 2 _ hp.out.drew rfl rfl | exact hcs.out _ 4 3 _ hp.out.drew rfl rfl | exact hcs.out _ 5 4 _ hp.out.drew rfl rfl | exact hcs.out _ 6 5 _ hp.out.drew rfl rfl | exact hcs.out _ 7 6 _ hp.out.drew rfl rfl); done)); clear hK K'; clear hHeld; have hHeld := hHeld2; clear hHeld2; ((try simp only [Act.put, List.setIfInBounds_toArray]); (try dsimp only [List.set_cons_zero, List.set_cons_succ]))); (refine take_t (i := 12) (d := 17) (oi := _) (v := ?_) rfl rfl (by kernel_rfl) (by kernel_rfl) (by kernel_rfl) (by rfl) ?_ (by assumption) ?_; rotate_left; (focus (intro w0 hSw; (try dsimp only at hSw); go_simp; (try with_reducible rfl); done)); ((try simp only [Act.put, List.setIfInBounds_toArray]); (try dsimp only [List.set_cons_zero, List.set_cons_succ]))); (refine wpAnyH_ready (rs := [13]) (by kernel_rfl) (by simp) ?_; refine AllReadyH.cons (o := _) rfl (fun K' hK => ?_) AllReadyH.nil; go_simp; (replace hp := Lib.hid ((hp.out.put (i := 4) rfl 0 (.slice ad1 d1 cp1)).put (i := 4) rfl 1 (.slice ad2 d2 cp2))); (try dsimp only); refine hK.out _ _ ?_ (fun hHeld2 => ?_); (focus ((try dsimp only); (first | exact hcs.out _ 2 1 _ hp.out rfl rfl | exact hcs.out _ 3 2 _ hp.out rfl rfl | exact hcs.out _ 4 3 _ hp.out rfl rfl | exact hcs.out _ 5 4 _ hp.out rfl rfl | exact hcs.out _ 6 5 _ hp.out rfl rfl | exact hcs.out _ 7 6 _ hp.out rfl rfl | exact hcs.out _ 2 1 _ hp.out.drew rfl rfl | exact hcs.out _ 3 2 _ hp.out.drew rfl rfl | exact hcs.out _ 4 3 _ hp.out.drew rfl rfl | exact hcs.out _ 5 4 _ hp.out.drew rfl rfl | exact hcs.out _ 6 5 _ hp.out.drew rfl rfl | exact hcs.out _ 7 6 _ hp.out.drew rfl rfl); done)); clear hK K'; clear hHeld; have hHeld := hHeld2; clear hHeld2; ((try simp only [Act.put, List.setIfInBounds_toArray]); (try dsimp only [List.set_cons_zero, List.set_cons_succ])))
    refine wpAnyH_done (by kernel_rfl) ?_ _; refine NoPanic.normal ?_
    generalize (World.setCell _ _ _).setCell _ _ = w3 at hp hHeld ⊢
    have f0 := hp.out.cell (i := 4) rfl 0; have f1 := hp.out.cell (i := 4) rfl 1
    simp at f0 f1
    clear z0 z1 y0 y1 hHeld
    go_wp2
    (try simp only [Exit.inBlock, Exit.then])
    refine bodyPost_ret (v := .agg #[.slice ad1 d1 cp1, .slice ad2 d2 cp2]) (results_cell_row rfl _ _ q4 25 #[.slice ad1 d1 cp1, .slice ad2 d2 cp2] (0, 0) _ rfl (hp.out.box (i := 4) rfl) Try.underlying25 rfl (by kernel_rfl)) rfl ?_
    exact ⟨_, _, rfl, hp.out.sl (i := 1) rfl hb3.out, hp.out.sl (i := 0) rfl hb4.out, hp.out.bel⟩
end Go.Proofs.Ytcdgnhhciccoeaa.nod
