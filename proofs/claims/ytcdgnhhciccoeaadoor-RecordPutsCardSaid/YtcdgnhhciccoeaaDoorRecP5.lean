/- Things that may be, and their bytes, as plain functions. No condition. Which things may be (record.May). No condition but the slices, and values that both packages know. Which properties, and which things, may be (record.May). No condition but the slices, and values that both packages know. Which things may be (record.May), and their bytes (record.Put). No condition but the slices, and values that both packages know. -/
import Derived.Test.YtcdgnhhciccoeaaDoorRecP1
import Derived.Test.YtcdgnhhciccoeaaDoorRead
import Derived.Deep.Cut
section
namespace Go.Proofs.YtcdgnhhciccoeaaDoor.recw
open Go.RowKit
open code (numL boolL)
set_option linter.unusedVariables false
set_option maxRecDepth 100000

def ltO : Option Int → Int → Bool
  | none, _ => true
  | some y, x => decide (y < x)
def labR : Option Int → List Int → Bool
  | _, [] => true
  | p, x :: t => (decide (0 ≤ x) && decide (x < 64) && ltO p x) && labR (some x) t
def propR : Option Int → List Pr → Bool
  | _, [] => true
  | p, x :: t => (decide (0 ≤ x.key) && decide (x.key < 64) && ltO p x.key && (x.kd != 0) && mB x.vl) && propR (some x.key) t
def labsOk (L : List Int) : Bool := labR none L && decide (L.length ≤ 8)
def propsOk (P : List Pr) : Bool := propR none P && decide (P.length ≤ 16)
def nameOk (n : Int) : Bool := decide (0 ≤ n) && decide (n < 64)
def thOk (ed : Bool) (L : List Int) (ty fm tw : Int) (P : List Pr) : Bool :=
  if ed then decide (L.length = 0) && nameOk ty && propsOk P else decide (ty = 0) && decide (fm = 0) && decide (tw = 0) && labsOk L && propsOk P
/-- the last one ahead of place i -/
def lastO {α : Type} (f : α → Int) (l : List α) : Nat → Option Int
  | 0 => none
  | i + 1 => (l[i]?).map f
theorem labR_all : ∀ (L : List Int) (p : Option Int), labR p L = true → ∀ x ∈ L, 0 ≤ x ∧ x < 64
  | [], _, _, x, hx => by simp at hx
  | y :: t, p, h, x, hx => by
    simp only [labR, Bool.and_eq_true, decide_eq_true_eq] at h
    rcases List.mem_cons.1 hx with rfl | hx
    · exact ⟨h.1.1.1, h.1.1.2⟩
    · exact labR_all t _ h.2 x hx
theorem propR_all : ∀ (L : List Pr) (p : Option Int), propR p L = true → ∀ x ∈ L, 0 ≤ x.key ∧ x.key < 64 ∧ x.kd ≠ 0 ∧ mB x.vl = true
  | [], _, _, x, hx => by simp at hx
  | y :: t, p, h, x, hx => by
    simp only [propR, Bool.and_eq_true, decide_eq_true_eq, bne_iff_ne, ne_eq] at h
    rcases List.mem_cons.1 hx with rfl | hx
    · exact ⟨h.1.1.1.1.1, h.1.1.1.1.2, h.1.1.2, h.1.2⟩
    · exact propR_all t _ h.2 x hx
theorem dropC {α : Type} {l : List α} {i : Nat} {x : α} (h : l[i]? = some x) : l.drop i = x :: l.drop (i + 1) := by
  obtain ⟨hi, he⟩ := List.getElem?_eq_some_iff.1 h
  rw [List.drop_eq_getElem_cons hi, he]
theorem labR_step {L : List Int} {i : Nat} {x : Int} (hx : L[i]? = some x) : labR (lastO id L i) (L.drop i) = ((decide (0 ≤ x) && decide (x < 64) && ltO (lastO id L i) x) && labR (lastO id L (i + 1)) (L.drop (i + 1))) := by
  rw [dropC hx]
  conv => lhs; unfold labR
  have : lastO id L (i + 1) = some x := by simp [lastO, hx]
  rw [this]
theorem propR_step {L : List Pr} {i : Nat} {x : Pr} (hx : L[i]? = some x) : propR (lastO Pr.key L i) (L.drop i) = ((decide (0 ≤ x.key) && decide (x.key < 64) && ltO (lastO Pr.key L i) x.key && (x.kd != 0) && mB x.vl) && propR (lastO Pr.key L (i + 1)) (L.drop (i + 1))) := by
  rw [dropC hx]
  conv => lhs; unfold propR
  have : lastO Pr.key L (i + 1) = some x.key := by simp [lastO, hx]
  rw [this]
/-- a thing's bytes -/
def headL (ed : Bool) (L : List Int) (ty fm tw : Int) : List UInt8 := if ed then numL ty.toNat ++ numL fm.toNat ++ numL tw.toNat else numL L.length
def labB (x : Int) : List UInt8 := numL x.toNat
def propB (x : Pr) : List UInt8 := numL x.key.toNat ++ pB x.vl
def thB (ed : Bool) (L : List Int) (ty fm tw : Int) (P : List Pr) : List UInt8 := ((boolL ed ++ headL ed L ty fm tw) ++ L.flatMap labB ++ numL P.length) ++ P.flatMap propB
def thS (ed : Bool) (L : List Int) (ty fm tw : Int) (P : List Pr) : List UInt8 := if thOk ed L ty fm tw P = true then (if (thB ed L ty fm tw P).length ≤ 4096 then thB ed L ty fm tw P else []) else []
theorem flat_len_le {α : Type} (f : α → List UInt8) (n : Nat) : ∀ (l : List α), (∀ x ∈ l, (f x).length ≤ n) → (l.flatMap f).length ≤ l.length * n
  | [], _ => by simp
  | x :: t, h => by
    have h1 := h x (by simp)
    have h2 := flat_len_le f n t fun y hy => h y (by simp [hy])
    rw [List.flatMap_cons, List.length_append, List.length_cons, Nat.succ_mul]; omega
theorem labB_len (x : Int) (h : 0 ≤ x ∧ x < 64) : (labB x).length ≤ 10 := code.numL_len64 _ (by omega)
end Go.Proofs.YtcdgnhhciccoeaaDoor.recw
end
section
namespace Go.Proofs.YtcdgnhhciccoeaaDoor.recw
open Go.RowKit
attribute [local go_sem ↓] Go.wp_at_zero Go.wp_at_succ
set_option linter.unusedVariables false
set_option linter.unusedSimpArgs false
set_option maxRecDepth 100000

theorem mayName_any (n : Int) (w : World) : Calls Tryd.prog 46 #[.int .i64 n] w fun e w' => e = .returned (.bool (nameOk n)) ∧ w' = w := by
  unfold nameOk
  obtain ⟨a, ha⟩ : ∃ a, decide ((0 : Int) ≤ n) = a := ⟨_, rfl⟩
  obtain ⟨b, hb⟩ : ∃ b, decide (n < (64 : Int)) = b := ⟨_, rfl⟩
  rw [ha, hb]
  cases a <;> cases b
  all_goals
    go_enter Tryd.func46, Tryd.ntmps46
    go_wp2
    go_ret
    exact ⟨rfl, rfl⟩
set_option maxHeartbeats 4000000 in
theorem mayLabels_any (la : Value) (L : List Int) (w : World) (h : Sl w la L.length (inC L)) : Calls Tryd.prog 48 #[la] w fun e w' => e = .returned (.bool (labsOk L)) ∧ Below w.heap.size w w' := by
  obtain ⟨a, cp, rfl, hmax, h⟩ := h
  obtain ⟨n, hn⟩ : ∃ n, n = L.length := ⟨_, rfl⟩
  obtain ⟨R, hR⟩ : ∃ R, R = labsOk L := ⟨_, rfl⟩
  rw [← hn] at hmax h ⊢
  rw [← hR]
  have hbad : labR none L = false → R = false := fun e => by rw [hR]; unfold labsOk; rw [e]; rfl
  have hend : labR none L = true → R = decide ((n : Int) ≤ 8) := fun e => by
    rw [hR]; unfold labsOk; rw [e, Bool.true_and, ← hn]; congr 1; apply propext; omega
  replace hbad := Lib.hid hbad; replace hend := Lib.hid hend; replace h := Lib.hid h; replace hn := Lib.hid hn
  clear hR
  go_enter Tryd.func48, Tryd.ntmps48
  go_wp2
  go_loopg [7] n (fun gi s7 wr => ∃ i : Nat, s7 = .int .i64 (i : Int) ∧ i + gi = n ∧ labR none L = labR (lastO id L i) (L.drop i) ∧ Below w.heap.size w wr)
  case atStart => exact ⟨0, rfl, by omega, by simp [lastO], Below.refl _ _⟩
  case round =>
    obtain ⟨i, rfl, hi, hr, hb⟩ := hrel
    cases gk with
    | zero =>
      have he : L.drop i = [] := List.drop_eq_nil_of_le (by have := hn.out; omega)
      rw [he] at hr
      have hR2 := hend.out (by rw [hr]; rfl)
      obtain rfl : i = n := by omega
      have e1 : ¬ ((i : Int) < (i : Int)) := by omega
      replace hR2 := Lib.hid hR2; replace hb := Lib.hid hb
      clear hr he
      go_wp2
      go_ret
      exact ⟨by rw [hR2.out]; rfl, hb.out⟩
    | succ u =>
      obtain ⟨b, o, rfl, hrow⟩ := h.out.resolve_left (by omega)
      obtain ⟨x, hx⟩ : ∃ x, L[i]? = some x := ⟨_, List.getElem?_eq_getElem (by have := hn.out; omega)⟩
      have hcl : ∀ j z, L[j]? = some z → wr.cell? ⟨b, o + j, none⟩ = some (.int .i64 z) := fun j z hz => (hb.cell hrow.1).trans (hrow.2 j _ (by simp [inC, hz]))
      have d0 := hcl i x hx
      have e1 : (0 : Int) ≤ (i : Int) := by omega
      have e2 : (i : Int) < (n : Int) := by omega
      rw [labR_step hx] at hr
      have hmn := mayName_any x
      have hno : nameOk x = (decide (0 ≤ x) && decide (x < 64)) := rfl
      rw [← hno] at hr
      replace hmn := Lib.hid hmn; replace hb := Lib.hid hb; replace hcl := Lib.hid hcl
      clear hrow hno
      cases hq : nameOk x with
      | false =>
        rw [hq] at hr hmn
        have hR2 := hbad.out (by rw [hr]; rfl)
        replace hR2 := Lib.hid hR2
        clear hr hx
        go_wp2_with (go_at_call 46; (with_reducible refine (hmn.out _).mono ?_); rintro e w1 ⟨rfl, rfl⟩)
        go_ret
        exact ⟨by rw [hR2.out]; rfl, hb.out⟩
      | true =>
        rw [hq] at hr hmn
        rw [Bool.true_and] at hr
        by_cases hi0 : i = 0
        · have hr2 : labR none L = labR (lastO id L (i + 1)) (L.drop (i + 1)) := by rw [hr, hi0]; rfl
          have g0 : ¬ (0 : Int) < (i : Int) := by omega
          replace hr2 := Lib.hid hr2
          clear hr hx hi0
          go_wp2_with (go_at_call 46; (with_reducible refine (hmn.out _).mono ?_); rintro e w1 ⟨rfl, rfl⟩)
          go_roundg u
          case rel => exact ⟨i + 1, by go_num, by omega, hr2.out, hb.out⟩
          case measure => omega
        · obtain ⟨j, hj⟩ : ∃ j, i = j + 1 := ⟨i - 1, by omega⟩
          obtain ⟨y, hy⟩ : ∃ y, L[j]? = some y := ⟨_, List.getElem?_eq_getElem (by have := hn.out; omega)⟩
          have d1 : wr.cell? ⟨b, o + (i - 1), none⟩ = some (.int .i64 y) := by have := hcl.out j y hy; rwa [show i - 1 = j by omega]
          have hlt : ltO (lastO id L i) x = decide (y < x) := by rw [hj]; simp [lastO, hy, ltO]
          rw [hlt] at hr
          have g0 : (0 : Int) < (i : Int) := by omega
          have g1 : (0 : Int) ≤ (j : Int) := by omega
          have g2 : (j : Int) < (n : Int) := by omega
          have hwj : wrap64 ((i : Int) - 1) = (j : Int) := by unfold wrap64; omega
          replace hj := Lib.hid hj
          cases hq2 : decide (x ≤ y) with
          | true =>
            have hxy : decide (y < x) = false := by simp at hq2 ⊢; exact hq2
            rw [hxy] at hr
            have hR2 := hbad.out (by rw [hr]; rfl)
            replace hR2 := Lib.hid hR2
            clear hr hx hy hlt hxy
            go_wp2_with (go_at_call 46; (with_reducible refine (hmn.out _).mono ?_); rintro e w1 ⟨rfl, rfl⟩)
            go_ret
            exact ⟨by rw [hR2.out]; rfl, hb.out⟩
          | false =>
            have hxy : decide (y < x) = true := by simp at hq2 ⊢; exact hq2
            rw [hxy, Bool.true_and] at hr
            replace hr := Lib.hid hr
            clear hx hy hlt hxy
            go_wp2_with (go_at_call 46; (with_reducible refine (hmn.out _).mono ?_); rintro e w1 ⟨rfl, rfl⟩)
            go_roundg u
            case rel => exact ⟨i + 1, by go_num, by omega, hr.out, hb.out⟩
            case measure => omega
end Go.Proofs.YtcdgnhhciccoeaaDoor.recw
end
section
namespace Go.Proofs.YtcdgnhhciccoeaaDoor.recw
open Go.RowKit
attribute [local go_sem ↓] Go.wp_at_zero Go.wp_at_succ
set_option linter.unusedVariables false
set_option linter.unusedSimpArgs false
set_option maxRecDepth 100000

set_option maxHeartbeats 16000000 in
theorem mayProps_any (pr : Value) (P : List Pr) (w : World) (h : Sl w pr P.length (prC P)) (hvk : ∀ p ∈ P, VK p.vl) : Calls Tryd.prog 47 #[pr] w fun e w' => e = .returned (.bool (propsOk P)) ∧ Below w.heap.size w w' := by
  obtain ⟨a, cp, rfl, hmax, h⟩ := h
  obtain ⟨n, hn⟩ : ∃ n, n = P.length := ⟨_, rfl⟩
  obtain ⟨R, hR⟩ : ∃ R, R = propsOk P := ⟨_, rfl⟩
  rw [← hn] at hmax h ⊢
  rw [← hR]
  have hbad : propR none P = false → R = false := fun e => by rw [hR]; unfold propsOk; rw [e]; rfl
  have hend : propR none P = true → R = decide ((n : Int) ≤ 16) := fun e => by
    rw [hR]; unfold propsOk; rw [e, Bool.true_and, ← hn]; congr 1; apply propext; omega
  replace hbad := Lib.hid hbad; replace hend := Lib.hid hend; replace h := Lib.hid h; replace hn := Lib.hid hn; replace hvk := Lib.hid hvk
  clear hR
  have hp0 := Lib.hid (Hp.none_ w [])
  go_enter Tryd.func47, Tryd.ntmps47
  go_wp2
  go_loopg [7] n (fun gi s7 wr => ∃ i : Nat, s7 = .int .i64 (i : Int) ∧ i + gi = n ∧ propR none P = propR (lastO Pr.key P i) (P.drop i) ∧ Hp w [] [] wr)
  case atStart => exact ⟨0, rfl, by omega, by simp [lastO], hp0.out⟩
  case round =>
    clear hp0
    obtain ⟨i, rfl, hi, hr, hp⟩ := hrel
    cases gk with
    | zero =>
      have he : P.drop i = [] := List.drop_eq_nil_of_le (by have := hn.out; omega)
      rw [he] at hr
      have hR2 := hend.out (by rw [hr]; rfl)
      obtain rfl : i = n := by omega
      have e1 : ¬ ((i : Int) < (i : Int)) := by omega
      replace hR2 := Lib.hid hR2; replace hp := Lib.hid hp
      clear hr he
      go_wp2
      go_ret
      exact ⟨by rw [hR2.out]; rfl, hp.out.bel⟩
    | succ u =>
      obtain ⟨b, o, rfl, hrow⟩ := h.out.resolve_left (by omega)
      obtain ⟨x, hx⟩ : ∃ x, P[i]? = some x := ⟨_, List.getElem?_eq_getElem (by have := hn.out; omega)⟩
      have hck : ∀ W, Below w.heap.size w W → ∀ j z, P[j]? = some z → W.cell? ⟨b, o + j * 4, none⟩ = some (.int .i64 z.key) := fun W hb j z hz => (hb.cell hrow.1).trans (hrow.elem0 Pr.c_len hz rfl)
      rw [propR_step hx] at hr
      have hvx := hvk.out x (List.mem_of_getElem? hx)
      have hno : nameOk x.key = (decide (0 ≤ x.key) && decide (x.key < 64)) := rfl
      rw [← hno] at hr
      obtain ⟨xk, xd, xn, xs⟩ := x
      have hvm : ∀ w, Calls Tryd.prog 77 #[.agg #[.int .i64 xd, .int .i64 xn, .string xs]] w fun e w' => e = .returned (.bool (mB (xd, xn, xs))) ∧ Below w.heap.size w w' := hvx.may
      have hr3 : propR none P = ((nameOk xk && ltO (lastO Pr.key P i) xk && (xd != 0) && mB (xd, xn, xs)) && propR (lastO Pr.key P (i + 1)) (P.drop (i + 1))) := hr
      have d0 : wr.cell? ⟨b, o + i * 4, none⟩ = some (.int .i64 xk) := (hp.bel.cell hrow.1).trans (hrow.elem0 Pr.c_len hx rfl)
      have d1 : wr.cell? ⟨b, o + i * 4 + 1, none⟩ = some (.int .i64 xd) := (hp.bel.cell hrow.1).trans (hrow.elem Pr.c_len hx rfl)
      have d2 : wr.cell? ⟨b, o + i * 4 + 2, none⟩ = some (.int .i64 xn) := (hp.bel.cell hrow.1).trans (hrow.elem Pr.c_len hx rfl)
      have d3 : wr.cell? ⟨b, o + i * 4 + 3, none⟩ = some (.string xs) := (hp.bel.cell hrow.1).trans (hrow.elem Pr.c_len hx rfl)
      have e1 : (0 : Int) ≤ (i : Int) := by omega
      have e2 : (i : Int) < (n : Int) := by omega
      have hpz := hp.alloc #[.int .i64 0, .int .i64 0, .int .i64 0, .string ⟨#[]⟩] 75
      have z0' := hpz.cell (i := 0) rfl 0; have z1 := hpz.cell (i := 0) rfl 1; have z2 := hpz.cell (i := 0) rfl 2; have z3 := hpz.cell (i := 0) rfl 3
      have y0 := hpz.free (i := 0) rfl 0; have y1 := hpz.free (i := 0) rfl 1; have y2 := hpz.free (i := 0) rfl 2; have y3 := hpz.free (i := 0) rfl 3
      simp at z0' z1 z2 z3
      have hpb := Lib.hid (hp.alloc #[.int .i64 xk, .int .i64 xd, .int .i64 xn, .string xs] 75)
      have hmn := mayName_any xk
      obtain ⟨gm, hgm⟩ : ∃ gm, mB (xd, xn, xs) = gm := ⟨_, rfl⟩
      rw [hgm] at hvm hr3
      replace hmn := Lib.hid hmn; replace hck := Lib.hid hck; replace hr3 := Lib.hid hr3; replace hvm := Lib.hid hvm; replace hx := Lib.hid hx
      clear hrow hno hpz hr hvx hgm
      go_upto_region 4 with fail
      clear z0' z1 z2 z3 y0 y1 y2 y3 d0 d1 d2 d3 hp
      generalize wr.alloc _ = W5 at hpb ⊢
      generalize wr.heap.size = qb at hpb ⊢
      go_cut [30] from 12 to 30 (fun s30 wx => s30 = .bool (!(nameOk xk && ltO (lastO Pr.key P i) xk)) ∧ Hp w [] [.box qb #[.int .i64 xk, .int .i64 xd, .int .i64 xn, .string xs] 75] wx)
      case first =>
        have hbox : ∀ W', Hp w [] [.box qb #[.int .i64 xk, .int .i64 xd, .int .i64 xn, .string xs] 75] W' → W'.cell? ⟨qb, 0, none⟩ = some (.int .i64 xk) := fun W' h => by have := h.cell (i := 0) rfl 0; simpa using this
        replace hbox := Lib.hid hbox
        replace hpb := Lib.hid hpb.out.drew
        cases hq : nameOk xk with
        | false =>
          rw [hq] at hmn
          have c0 := hbox.out _ hpb.out
          refine wp_region_noPanic ?_; refine wp_region_held_drew (S := (fun W' => Hp w [] [.box qb #[.int .i64 xk, .int .i64 xd, .int .i64 xn, .string xs] 75] W' ∧ W'.cell? ⟨qb, 0, none⟩ = some (.int .i64 xk))) (by kernel_rfl) ?_ (fun hHeld => ?_); (focus ((try dsimp only); exact ⟨hpb.out, c0⟩; done)); (refine take_t (i := 0) (d := 12) (oi := _) (v := ?_) rfl rfl (by kernel_rfl) (by kernel_rfl) (by kernel_rfl) (by rfl) ?_ (by assumption) ?_; rotate_left; (focus (intro w0 hSw; (try dsimp only at hSw); go_simp; (try with_reducible rfl); done)); ((try simp only [Act.put, List.setIfInBounds_toArray]); (try dsimp only [List.set_cons_zero, List.set_cons_succ]))); (refine take_t (i := 1) (d := 13) (oi := _) (v := ?_) rfl rfl (by kernel_rfl) (by kernel_rfl) (by kernel_rfl) (by rfl) ?_ (by assumption) ?_; rotate_left; (focus (intro w0 hSw; (try dsimp only at hSw); go_simp; (try with_reducible rfl); done)); ((try simp only [Act.put, List.setIfInBounds_toArray]); (try dsimp only [List.set_cons_zero, List.set_cons_succ]))); (refine wpAnyH_ready (rs := [2]) (by kernel_rfl) (by simp) ?_; refine AllReadyH.cons (o := _) rfl (fun K' hK => ?_) AllReadyH.nil; go_simp; (go_at_call 46; (with_reducible refine (hmn.out _).mono ?_); rintro e w1 ⟨rfl, rfl⟩); (try dsimp only); refine hK.out _ _ ?_ (fun hHeld2 => ?_); (focus ((try dsimp only); exact ⟨hpb.out, c0⟩; done)); clear hK K'; clear hHeld; have hHeld := hHeld2; clear hHeld2; ((try simp only [Act.put, List.setIfInBounds_toArray]); (try dsimp only [List.set_cons_zero, List.set_cons_succ]))); (refine take_t (i := 3) (d := 15) (oi := _) (v := ?_) rfl rfl (by kernel_rfl) (by kernel_rfl) (by kernel_rfl) (by rfl) ?_ (by assumption) ?_; rotate_left; (focus (intro w0 hSw; (try dsimp only at hSw); go_simp; (try with_reducible rfl); done)); ((try simp only [Act.put, List.setIfInBounds_toArray]); (try dsimp only [List.set_cons_zero, List.set_cons_succ]))); (refine take_t (i := 4) (d := 16) (oi := _) (v := ?_) rfl rfl (by kernel_rfl) (by kernel_rfl) (by kernel_rfl) (by rfl) ?_ (by assumption) ?_; rotate_left; (focus (intro w0 hSw; (try dsimp only at hSw); go_simp; (try with_reducible rfl); done)); ((try simp only [Act.put, List.setIfInBounds_toArray]); (try dsimp only [List.set_cons_zero, List.set_cons_succ]))); (refine take_u (i := 5) (d := 17) (oi := _) rfl rfl (by kernel_rfl) (by kernel_rfl) (by kernel_rfl) (by rfl) (by assumption) ?_; ((try simp only [Act.put, List.setIfInBounds_toArray]); (try dsimp only [List.set_cons_zero, List.set_cons_succ]))); (refine take_u (i := 6) (d := 18) (oi := _) rfl rfl (by kernel_rfl) (by kernel_rfl) (by kernel_rfl) (by rfl) (by assumption) ?_; ((try simp only [Act.put, List.setIfInBounds_toArray]); (try dsimp only [List.set_cons_zero, List.set_cons_succ]))); (refine take_u (i := 7) (d := 19) (oi := _) rfl rfl (by kernel_rfl) (by kernel_rfl) (by kernel_rfl) (by rfl) (by assumption) ?_; ((try simp only [Act.put, List.setIfInBounds_toArray]); (try dsimp only [List.set_cons_zero, List.set_cons_succ]))); (refine take_u (i := 8) (d := 20) (oi := _) rfl rfl (by kernel_rfl) (by kernel_rfl) (by kernel_rfl) (by rfl) (by assumption) ?_; ((try simp only [Act.put, List.setIfInBounds_toArray]); (try dsimp only [List.set_cons_zero, List.set_cons_succ]))); (refine take_u (i := 9) (d := 21) (oi := _) rfl rfl (by kernel_rfl) (by kernel_rfl) (by kernel_rfl) (by rfl) (by assumption) ?_; ((try simp only [Act.put, List.setIfInBounds_toArray]); (try dsimp only [List.set_cons_zero, List.set_cons_succ]))); (refine take_u (i := 10) (d := 22) (oi := _) rfl rfl (by kernel_rfl) (by kernel_rfl) (by kernel_rfl) (by rfl) (by assumption) ?_; ((try simp only [Act.put, List.setIfInBounds_toArray]); (try dsimp only [List.set_cons_zero, List.set_cons_succ]))); (refine take_u (i := 11) (d := 23) (oi := _) rfl rfl (by kernel_rfl) (by kernel_rfl) (by kernel_rfl) (by rfl) (by assumption) ?_; ((try simp only [Act.put, List.setIfInBounds_toArray]); (try dsimp only [List.set_cons_zero, List.set_cons_succ]))); (refine take_u (i := 12) (d := 24) (oi := _) rfl rfl (by kernel_rfl) (by kernel_rfl) (by kernel_rfl) (by rfl) (by assumption) ?_; ((try simp only [Act.put, List.setIfInBounds_toArray]); (try dsimp only [List.set_cons_zero, List.set_cons_succ]))); (refine take_u (i := 13) (d := 25) (oi := _) rfl rfl (by kernel_rfl) (by kernel_rfl) (by kernel_rfl) (by rfl) (by assumption) ?_; ((try simp only [Act.put, List.setIfInBounds_toArray]); (try dsimp only [List.set_cons_zero, List.set_cons_succ]))); (refine take_u (i := 14) (d := 26) (oi := _) rfl rfl (by kernel_rfl) (by kernel_rfl) (by kernel_rfl) (by rfl) (by assumption) ?_; ((try simp only [Act.put, List.setIfInBounds_toArray]); (try dsimp only [List.set_cons_zero, List.set_cons_succ]))); (refine take_u (i := 15) (d := 27) (oi := _) rfl rfl (by kernel_rfl) (by kernel_rfl) (by kernel_rfl) (by rfl) (by assumption) ?_; ((try simp only [Act.put, List.setIfInBounds_toArray]); (try dsimp only [List.set_cons_zero, List.set_cons_succ]))); (refine take_u (i := 16) (d := 28) (oi := _) rfl rfl (by kernel_rfl) (by kernel_rfl) (by kernel_rfl) (by rfl) (by assumption) ?_; ((try simp only [Act.put, List.setIfInBounds_toArray]); (try dsimp only [List.set_cons_zero, List.set_cons_succ]))); (refine take_u (i := 17) (d := 29) (oi := _) rfl rfl (by kernel_rfl) (by kernel_rfl) (by kernel_rfl) (by rfl) (by assumption) ?_; ((try simp only [Act.put, List.setIfInBounds_toArray]); (try dsimp only [List.set_cons_zero, List.set_cons_succ]))); (refine take_t (i := 18) (d := 30) (oi := _) (v := ?_) rfl rfl (by kernel_rfl) (by kernel_rfl) (by kernel_rfl) (by rfl) ?_ (by assumption) ?_; rotate_left; (focus (intro w0 hSw; (try dsimp only at hSw); go_simp; (try with_reducible rfl); done)); ((try simp only [Act.put, List.setIfInBounds_toArray]); (try dsimp only [List.set_cons_zero, List.set_cons_succ]))); refine wpAnyH_done (by kernel_rfl) ?_ _; refine NoPanic.normal ?_
          go_wp2
          go_meet
          exact ⟨by rw [hq]; rfl, hpb.out⟩
        | true =>
          rw [hq] at hmn
          by_cases hi0 : i = 0
          · have g0 : ¬ (0 : Int) < (i : Int) := by omega
            have hl0 : ltO (lastO Pr.key P i) xk = true := by rw [hi0]; rfl
            replace hl0 := Lib.hid hl0
            have g0n : (0 < i) = False := by simp [hi0]
            have g0d : decide (0 < i) = false := by simp [hi0]
            replace hi0 := Lib.hid hi0
            have c0 := hbox.out _ hpb.out
            refine wp_region_noPanic ?_; refine wp_region_held_drew (S := (fun W' => Hp w [] [.box qb #[.int .i64 xk, .int .i64 xd, .int .i64 xn, .string xs] 75] W' ∧ W'.cell? ⟨qb, 0, none⟩ = some (.int .i64 xk))) (by kernel_rfl) ?_ (fun hHeld => ?_); (focus ((try dsimp only); exact ⟨hpb.out, c0⟩; done)); (refine take_t (i := 0) (d := 12) (oi := _) (v := ?_) rfl rfl (by kernel_rfl) (by kernel_rfl) (by kernel_rfl) (by rfl) ?_ (by assumption) ?_; rotate_left; (focus (intro w0 hSw; (try dsimp only at hSw); go_simp; (try with_reducible rfl); done)); ((try simp only [Act.put, List.setIfInBounds_toArray]); (try dsimp only [List.set_cons_zero, List.set_cons_succ]))); (refine take_t (i := 1) (d := 13) (oi := _) (v := ?_) rfl rfl (by kernel_rfl) (by kernel_rfl) (by kernel_rfl) (by rfl) ?_ (by assumption) ?_; rotate_left; (focus (intro w0 hSw; (try dsimp only at hSw); go_simp; (try with_reducible rfl); done)); ((try simp only [Act.put, List.setIfInBounds_toArray]); (try dsimp only [List.set_cons_zero, List.set_cons_succ]))); (refine wpAnyH_ready (rs := [2]) (by kernel_rfl) (by simp) ?_; refine AllReadyH.cons (o := _) rfl (fun K' hK => ?_) AllReadyH.nil; go_simp; (go_at_call 46; (with_reducible refine (hmn.out _).mono ?_); rintro e w1 ⟨rfl, rfl⟩); (try dsimp only); refine hK.out _ _ ?_ (fun hHeld2 => ?_); (focus ((try dsimp only); exact ⟨hpb.out, c0⟩; done)); clear hK K'; clear hHeld; have hHeld := hHeld2; clear hHeld2; ((try simp only [Act.put, List.setIfInBounds_toArray]); (try dsimp only [List.set_cons_zero, List.set_cons_succ]))); (refine take_t (i := 3) (d := 15) (oi := _) (v := ?_) rfl rfl (by kernel_rfl) (by kernel_rfl) (by kernel_rfl) (by rfl) ?_ (by assumption) ?_; rotate_left; (focus (intro w0 hSw; (try dsimp only at hSw); go_simp; (try with_reducible rfl); done)); ((try simp only [Act.put, List.setIfInBounds_toArray]); (try dsimp only [List.set_cons_zero, List.set_cons_succ]))); (refine take_t (i := 4) (d := 16) (oi := _) (v := ?_) rfl rfl (by kernel_rfl) (by kernel_rfl) (by kernel_rfl) (by rfl) ?_ (by assumption) ?_; rotate_left; (focus (intro w0 hSw; (try dsimp only at hSw); go_simp; (try with_reducible rfl); done)); ((try simp only [Act.put, List.setIfInBounds_toArray]); (try dsimp only [List.set_cons_zero, List.set_cons_succ]))); (refine take_t (i := 5) (d := 17) (oi := _) (v := ?_) rfl rfl (by kernel_rfl) (by kernel_rfl) (by kernel_rfl) (by rfl) ?_ (by assumption) ?_; rotate_left; (focus (intro w0 hSw; (try dsimp only at hSw); go_simp; (try with_reducible rfl); done)); ((try simp only [Act.put, List.setIfInBounds_toArray]); (try dsimp only [List.set_cons_zero, List.set_cons_succ]))); (refine take_t (i := 6) (d := 18) (oi := _) (v := ?_) rfl rfl (by kernel_rfl) (by kernel_rfl) (by kernel_rfl) (by rfl) ?_ (by assumption) ?_; rotate_left; (focus (intro w0 hSw; (try dsimp only at hSw); go_simp; (try with_reducible rfl); done)); ((try simp only [Act.put, List.setIfInBounds_toArray]); (try dsimp only [List.set_cons_zero, List.set_cons_succ]))); (refine take_t (i := 7) (d := 19) (oi := _) (v := ?_) rfl rfl (by kernel_rfl) (by kernel_rfl) (by kernel_rfl) (by rfl) ?_ (by assumption) ?_; rotate_left; (focus (intro w0 hSw; (try dsimp only at hSw); go_simp; (try with_reducible rfl); done)); ((try simp only [Act.put, List.setIfInBounds_toArray]); (try dsimp only [List.set_cons_zero, List.set_cons_succ]))); (refine take_u (i := 8) (d := 20) (oi := _) rfl rfl (by kernel_rfl) (by kernel_rfl) (by kernel_rfl) (by rfl) (by assumption) ?_; ((try simp only [Act.put, List.setIfInBounds_toArray]); (try dsimp only [List.set_cons_zero, List.set_cons_succ]))); (refine take_u (i := 9) (d := 21) (oi := _) rfl rfl (by kernel_rfl) (by kernel_rfl) (by kernel_rfl) (by rfl) (by assumption) ?_; ((try simp only [Act.put, List.setIfInBounds_toArray]); (try dsimp only [List.set_cons_zero, List.set_cons_succ]))); (refine take_u (i := 10) (d := 22) (oi := _) rfl rfl (by kernel_rfl) (by kernel_rfl) (by kernel_rfl) (by rfl) (by assumption) ?_; ((try simp only [Act.put, List.setIfInBounds_toArray]); (try dsimp only [List.set_cons_zero, List.set_cons_succ]))); (refine take_u (i := 11) (d := 23) (oi := _) rfl rfl (by kernel_rfl) (by kernel_rfl) (by kernel_rfl) (by rfl) (by assumption) ?_; ((try simp only [Act.put, List.setIfInBounds_toArray]); (try dsimp only [List.set_cons_zero, List.set_cons_succ]))); (refine take_u (i := 12) (d := 24) (oi := _) rfl rfl (by kernel_rfl) (by kernel_rfl) (by kernel_rfl) (by rfl) (by assumption) ?_; ((try simp only [Act.put, List.setIfInBounds_toArray]); (try dsimp only [List.set_cons_zero, List.set_cons_succ]))); (refine take_u (i := 13) (d := 25) (oi := _) rfl rfl (by kernel_rfl) (by kernel_rfl) (by kernel_rfl) (by rfl) (by assumption) ?_; ((try simp only [Act.put, List.setIfInBounds_toArray]); (try dsimp only [List.set_cons_zero, List.set_cons_succ]))); (refine take_u (i := 14) (d := 26) (oi := _) rfl rfl (by kernel_rfl) (by kernel_rfl) (by kernel_rfl) (by rfl) (by assumption) ?_; ((try simp only [Act.put, List.setIfInBounds_toArray]); (try dsimp only [List.set_cons_zero, List.set_cons_succ]))); (refine take_u (i := 15) (d := 27) (oi := _) rfl rfl (by kernel_rfl) (by kernel_rfl) (by kernel_rfl) (by rfl) (by assumption) ?_; ((try simp only [Act.put, List.setIfInBounds_toArray]); (try dsimp only [List.set_cons_zero, List.set_cons_succ]))); (refine take_u (i := 16) (d := 28) (oi := _) rfl rfl (by kernel_rfl) (by kernel_rfl) (by kernel_rfl) (by rfl) (by assumption) ?_; ((try simp only [Act.put, List.setIfInBounds_toArray]); (try dsimp only [List.set_cons_zero, List.set_cons_succ]))); (refine take_t (i := 17) (d := 29) (oi := _) (v := ?_) rfl rfl (by kernel_rfl) (by kernel_rfl) (by kernel_rfl) (by rfl) ?_ (by assumption) ?_; rotate_left; (focus (intro w0 hSw; (try dsimp only at hSw); go_simp; (try with_reducible rfl); done)); ((try simp only [Act.put, List.setIfInBounds_toArray]); (try dsimp only [List.set_cons_zero, List.set_cons_succ]))); (refine take_t (i := 18) (d := 30) (oi := _) (v := ?_) rfl rfl (by kernel_rfl) (by kernel_rfl) (by kernel_rfl) (by rfl) ?_ (by assumption) ?_; rotate_left; (focus (intro w0 hSw; (try dsimp only at hSw); go_simp; (try with_reducible rfl); done)); ((try simp only [Act.put, List.setIfInBounds_toArray]); (try dsimp only [List.set_cons_zero, List.set_cons_succ]))); refine wpAnyH_done (by kernel_rfl) ?_ _; refine NoPanic.normal ?_
            go_wp2
            go_meet
            exact ⟨by rw [hq, hl0.out]; rfl, hpb.out⟩
          · obtain ⟨j, hj⟩ : ∃ j, i = j + 1 := ⟨i - 1, by omega⟩
            obtain ⟨y, hy⟩ : ∃ y, P[j]? = some y := ⟨_, List.getElem?_eq_getElem (by have := hn.out; omega)⟩
            have hlt : ltO (lastO Pr.key P i) xk = decide (y.key < xk) := by rw [hj]; simp [lastO, hy, ltO]
            have c0 := hbox.out _ hpb.out
            have c1 := hck.out _ hpb.out.bel j y hy
            obtain ⟨yk, hyk⟩ : ∃ k, k = y.key := ⟨_, rfl⟩
            rw [← hyk] at hlt c1
            have g0 : (0 : Int) < (i : Int) := by omega
            have g0d : decide (0 < i) = true := by simp; omega
            have g0n : 0 < i := by omega
            replace hi0 := Lib.hid hi0
            have g1 : (0 : Int) ≤ (j : Int) := by omega
            have g2 : (j : Int) < (n : Int) := by omega
            have hwj : IntKind.i64.wrap ((i : Int) - 1) = (j : Int) := by rw [IntWalk.i64_left]; unfold wrap64; omega
            replace hj := Lib.hid hj
            replace hlt := Lib.hid hlt
            clear hy hyk e1 e2
            cases hq2 : decide (xk ≤ yk) with
            | true =>
              have hxy : decide (yk < xk) = false := by simp at hq2 ⊢; exact hq2
              replace hxy := Lib.hid hxy
              refine wp_region_noPanic ?_; refine wp_region_held_drew (S := (fun W' => Hp w [] [.box qb #[.int .i64 xk, .int .i64 xd, .int .i64 xn, .string xs] 75] W' ∧ W'.cell? ⟨qb, 0, none⟩ = some (.int .i64 xk) ∧ W'.cell? ⟨b, o + j * 4, none⟩ = some (.int .i64 yk))) (by kernel_rfl) ?_ (fun hHeld => ?_); (focus ((try dsimp only); exact ⟨hpb.out, c0, c1⟩; done)); (refine take_t (i := 0) (d := 12) (oi := _) (v := ?_) rfl rfl (by kernel_rfl) (by kernel_rfl) (by kernel_rfl) (by rfl) ?_ (by assumption) ?_; rotate_left; (focus (intro w0 hSw; (try dsimp only at hSw); go_simp; (try with_reducible rfl); done)); ((try simp only [Act.put, List.setIfInBounds_toArray]); (try dsimp only [List.set_cons_zero, List.set_cons_succ]))); (refine take_t (i := 1) (d := 13) (oi := _) (v := ?_) rfl rfl (by kernel_rfl) (by kernel_rfl) (by kernel_rfl) (by rfl) ?_ (by assumption) ?_; rotate_left; (focus (intro w0 hSw; (try dsimp only at hSw); go_simp; (try with_reducible rfl); done)); ((try simp only [Act.put, List.setIfInBounds_toArray]); (try dsimp only [List.set_cons_zero, List.set_cons_succ]))); (refine wpAnyH_ready (rs := [2]) (by kernel_rfl) (by simp) ?_; refine AllReadyH.cons (o := _) rfl (fun K' hK => ?_) AllReadyH.nil; go_simp; (go_at_call 46; (with_reducible refine (hmn.out _).mono ?_); rintro e w1 ⟨rfl, rfl⟩); (try dsimp only); refine hK.out _ _ ?_ (fun hHeld2 => ?_); (focus ((try dsimp only); exact ⟨hpb.out, c0, c1⟩; done)); clear hK K'; clear hHeld; have hHeld := hHeld2; clear hHeld2; ((try simp only [Act.put, List.setIfInBounds_toArray]); (try dsimp only [List.set_cons_zero, List.set_cons_succ]))); (refine take_t (i := 3) (d := 15) (oi := _) (v := ?_) rfl rfl (by kernel_rfl) (by kernel_rfl) (by kernel_rfl) (by rfl) ?_ (by assumption) ?_; rotate_left; (focus (intro w0 hSw; (try dsimp only at hSw); go_simp; (try with_reducible rfl); done)); ((try simp only [Act.put, List.setIfInBounds_toArray]); (try dsimp only [List.set_cons_zero, List.set_cons_succ]))); (refine take_t (i := 4) (d := 16) (oi := _) (v := ?_) rfl rfl (by kernel_rfl) (by kernel_rfl) (by kernel_rfl) (by rfl) ?_ (by assumption) ?_; rotate_left; (focus (intro w0 hSw; (try dsimp only at hSw); go_simp; (try with_reducible rfl); done)); ((try simp only [Act.put, List.setIfInBounds_toArray]); (try dsimp only [List.set_cons_zero, List.set_cons_succ]))); (refine take_t (i := 5) (d := 17) (oi := _) (v := ?_) rfl rfl (by kernel_rfl) (by kernel_rfl) (by kernel_rfl) (by rfl) ?_ (by assumption) ?_; rotate_left; (focus (intro w0 hSw; (try dsimp only at hSw); go_simp; (try with_reducible rfl); done)); ((try simp only [Act.put, List.setIfInBounds_toArray]); (try dsimp only [List.set_cons_zero, List.set_cons_succ]))); (refine take_t (i := 6) (d := 18) (oi := _) (v := ?_) rfl rfl (by kernel_rfl) (by kernel_rfl) (by kernel_rfl) (by rfl) ?_ (by assumption) ?_; rotate_left; (focus (intro w0 hSw; (try dsimp only at hSw); go_simp; (try with_reducible rfl); done)); ((try simp only [Act.put, List.setIfInBounds_toArray]); (try dsimp only [List.set_cons_zero, List.set_cons_succ]))); (refine take_t (i := 7) (d := 19) (oi := _) (v := ?_) rfl rfl (by kernel_rfl) (by kernel_rfl) (by kernel_rfl) (by rfl) ?_ (by assumption) ?_; rotate_left; (focus (intro w0 hSw; (try dsimp only at hSw); go_simp; (try with_reducible rfl); done)); ((try simp only [Act.put, List.setIfInBounds_toArray]); (try dsimp only [List.set_cons_zero, List.set_cons_succ]))); (refine take_t (i := 8) (d := 20) (oi := _) (v := ?_) rfl rfl (by kernel_rfl) (by kernel_rfl) (by kernel_rfl) (by rfl) ?_ (by assumption) ?_; rotate_left; (focus (intro w0 hSw; (try dsimp only at hSw); go_simp; (try with_reducible rfl); done)); ((try simp only [Act.put, List.setIfInBounds_toArray]); (try dsimp only [List.set_cons_zero, List.set_cons_succ]))); (refine take_t (i := 9) (d := 21) (oi := _) (v := ?_) rfl rfl (by kernel_rfl) (by kernel_rfl) (by kernel_rfl) (by rfl) ?_ (by assumption) ?_; rotate_left; (focus (intro w0 hSw; (try dsimp only at hSw); go_simp; (try with_reducible rfl); done)); ((try simp only [Act.put, List.setIfInBounds_toArray]); (try dsimp only [List.set_cons_zero, List.set_cons_succ]))); (refine take_t (i := 10) (d := 22) (oi := _) (v := ?_) rfl rfl (by kernel_rfl) (by kernel_rfl) (by kernel_rfl) (by rfl) ?_ (by assumption) ?_; rotate_left; (focus (intro w0 hSw; (try dsimp only at hSw); go_simp; (try with_reducible rfl); done)); ((try simp only [Act.put, List.setIfInBounds_toArray]); (try dsimp only [List.set_cons_zero, List.set_cons_succ]))); (refine take_t (i := 11) (d := 23) (oi := _) (v := ?_) rfl rfl (by kernel_rfl) (by kernel_rfl) (by kernel_rfl) (by rfl) ?_ (by assumption) ?_; rotate_left; (focus (intro w0 hSw; (try dsimp only at hSw); go_simp; (try with_reducible rfl); done)); ((try simp only [Act.put, List.setIfInBounds_toArray]); (try dsimp only [List.set_cons_zero, List.set_cons_succ]))); (refine take_t (i := 12) (d := 24) (oi := _) (v := ?_) rfl rfl (by kernel_rfl) (by kernel_rfl) (by kernel_rfl) (by rfl) ?_ (by assumption) ?_; rotate_left; (focus (intro w0 hSw; (try dsimp only at hSw); go_simp; (try with_reducible rfl); done)); ((try simp only [Act.put, List.setIfInBounds_toArray]); (try dsimp only [List.set_cons_zero, List.set_cons_succ]))); (refine take_t (i := 13) (d := 25) (oi := _) (v := ?_) rfl rfl (by kernel_rfl) (by kernel_rfl) (by kernel_rfl) (by rfl) ?_ (by assumption) ?_; rotate_left; (focus (intro w0 hSw; (try dsimp only at hSw); go_simp; (try with_reducible rfl); done)); ((try simp only [Act.put, List.setIfInBounds_toArray]); (try dsimp only [List.set_cons_zero, List.set_cons_succ]))); (refine take_t (i := 14) (d := 26) (oi := _) (v := ?_) rfl rfl (by kernel_rfl) (by kernel_rfl) (by kernel_rfl) (by rfl) ?_ (by assumption) ?_; rotate_left; (focus (intro w0 hSw; (try dsimp only at hSw); go_simp; (try with_reducible rfl); done)); ((try simp only [Act.put, List.setIfInBounds_toArray]); (try dsimp only [List.set_cons_zero, List.set_cons_succ]))); (refine take_t (i := 15) (d := 27) (oi := _) (v := ?_) rfl rfl (by kernel_rfl) (by kernel_rfl) (by kernel_rfl) (by rfl) ?_ (by assumption) ?_; rotate_left; (focus (intro w0 hSw; (try dsimp only at hSw); go_simp; (try with_reducible rfl); done)); ((try simp only [Act.put, List.setIfInBounds_toArray]); (try dsimp only [List.set_cons_zero, List.set_cons_succ]))); (refine take_t (i := 16) (d := 28) (oi := _) (v := ?_) rfl rfl (by kernel_rfl) (by kernel_rfl) (by kernel_rfl) (by rfl) ?_ (by assumption) ?_; rotate_left; (focus (intro w0 hSw; (try dsimp only at hSw); go_simp; (try with_reducible rfl); done)); ((try simp only [Act.put, List.setIfInBounds_toArray]); (try dsimp only [List.set_cons_zero, List.set_cons_succ]))); (refine take_t (i := 17) (d := 29) (oi := _) (v := ?_) rfl rfl (by kernel_rfl) (by kernel_rfl) (by kernel_rfl) (by rfl) ?_ (by assumption) ?_; rotate_left; (focus (intro w0 hSw; (try dsimp only at hSw); go_simp; (try with_reducible rfl); done)); ((try simp only [Act.put, List.setIfInBounds_toArray]); (try dsimp only [List.set_cons_zero, List.set_cons_succ]))); (refine take_t (i := 18) (d := 30) (oi := _) (v := ?_) rfl rfl (by kernel_rfl) (by kernel_rfl) (by kernel_rfl) (by rfl) ?_ (by assumption) ?_; rotate_left; (focus (intro w0 hSw; (try dsimp only at hSw); go_simp; (try with_reducible rfl); done)); ((try simp only [Act.put, List.setIfInBounds_toArray]); (try dsimp only [List.set_cons_zero, List.set_cons_succ]))); refine wpAnyH_done (by kernel_rfl) ?_ _; refine NoPanic.normal ?_
              go_wp2
              go_meet
              exact ⟨by rw [hq, hlt.out, hxy.out]; rfl, hpb.out⟩
            | false =>
              have hxy : decide (yk < xk) = true := by simp at hq2 ⊢; exact hq2
              replace hxy := Lib.hid hxy
              refine wp_region_noPanic ?_; refine wp_region_held_drew (S := (fun W' => Hp w [] [.box qb #[.int .i64 xk, .int .i64 xd, .int .i64 xn, .string xs] 75] W' ∧ W'.cell? ⟨qb, 0, none⟩ = some (.int .i64 xk) ∧ W'.cell? ⟨b, o + j * 4, none⟩ = some (.int .i64 yk))) (by kernel_rfl) ?_ (fun hHeld => ?_); (focus ((try dsimp only); exact ⟨hpb.out, c0, c1⟩; done)); (refine take_t (i := 0) (d := 12) (oi := _) (v := ?_) rfl rfl (by kernel_rfl) (by kernel_rfl) (by kernel_rfl) (by rfl) ?_ (by assumption) ?_; rotate_left; (focus (intro w0 hSw; (try dsimp only at hSw); go_simp; (try with_reducible rfl); done)); ((try simp only [Act.put, List.setIfInBounds_toArray]); (try dsimp only [List.set_cons_zero, List.set_cons_succ]))); (refine take_t (i := 1) (d := 13) (oi := _) (v := ?_) rfl rfl (by kernel_rfl) (by kernel_rfl) (by kernel_rfl) (by rfl) ?_ (by assumption) ?_; rotate_left; (focus (intro w0 hSw; (try dsimp only at hSw); go_simp; (try with_reducible rfl); done)); ((try simp only [Act.put, List.setIfInBounds_toArray]); (try dsimp only [List.set_cons_zero, List.set_cons_succ]))); (refine wpAnyH_ready (rs := [2]) (by kernel_rfl) (by simp) ?_; refine AllReadyH.cons (o := _) rfl (fun K' hK => ?_) AllReadyH.nil; go_simp; (go_at_call 46; (with_reducible refine (hmn.out _).mono ?_); rintro e w1 ⟨rfl, rfl⟩); (try dsimp only); refine hK.out _ _ ?_ (fun hHeld2 => ?_); (focus ((try dsimp only); exact ⟨hpb.out, c0, c1⟩; done)); clear hK K'; clear hHeld; have hHeld := hHeld2; clear hHeld2; ((try simp only [Act.put, List.setIfInBounds_toArray]); (try dsimp only [List.set_cons_zero, List.set_cons_succ]))); (refine take_t (i := 3) (d := 15) (oi := _) (v := ?_) rfl rfl (by kernel_rfl) (by kernel_rfl) (by kernel_rfl) (by rfl) ?_ (by assumption) ?_; rotate_left; (focus (intro w0 hSw; (try dsimp only at hSw); go_simp; (try with_reducible rfl); done)); ((try simp only [Act.put, List.setIfInBounds_toArray]); (try dsimp only [List.set_cons_zero, List.set_cons_succ]))); (refine take_t (i := 4) (d := 16) (oi := _) (v := ?_) rfl rfl (by kernel_rfl) (by kernel_rfl) (by kernel_rfl) (by rfl) ?_ (by assumption) ?_; rotate_left; (focus (intro w0 hSw; (try dsimp only at hSw); go_simp; (try with_reducible rfl); done)); ((try simp only [Act.put, List.setIfInBounds_toArray]); (try dsimp only [List.set_cons_zero, List.set_cons_succ]))); (refine take_t (i := 5) (d := 17) (oi := _) (v := ?_) rfl rfl (by kernel_rfl) (by kernel_rfl) (by kernel_rfl) (by rfl) ?_ (by assumption) ?_; rotate_left; (focus (intro w0 hSw; (try dsimp only at hSw); go_simp; (try with_reducible rfl); done)); ((try simp only [Act.put, List.setIfInBounds_toArray]); (try dsimp only [List.set_cons_zero, List.set_cons_succ]))); (refine take_t (i := 6) (d := 18) (oi := _) (v := ?_) rfl rfl (by kernel_rfl) (by kernel_rfl) (by kernel_rfl) (by rfl) ?_ (by assumption) ?_; rotate_left; (focus (intro w0 hSw; (try dsimp only at hSw); go_simp; (try with_reducible rfl); done)); ((try simp only [Act.put, List.setIfInBounds_toArray]); (try dsimp only [List.set_cons_zero, List.set_cons_succ]))); (refine take_t (i := 7) (d := 19) (oi := _) (v := ?_) rfl rfl (by kernel_rfl) (by kernel_rfl) (by kernel_rfl) (by rfl) ?_ (by assumption) ?_; rotate_left; (focus (intro w0 hSw; (try dsimp only at hSw); go_simp; (try with_reducible rfl); done)); ((try simp only [Act.put, List.setIfInBounds_toArray]); (try dsimp only [List.set_cons_zero, List.set_cons_succ]))); (refine take_t (i := 8) (d := 20) (oi := _) (v := ?_) rfl rfl (by kernel_rfl) (by kernel_rfl) (by kernel_rfl) (by rfl) ?_ (by assumption) ?_; rotate_left; (focus (intro w0 hSw; (try dsimp only at hSw); go_simp; (try with_reducible rfl); done)); ((try simp only [Act.put, List.setIfInBounds_toArray]); (try dsimp only [List.set_cons_zero, List.set_cons_succ]))); (refine take_t (i := 9) (d := 21) (oi := _) (v := ?_) rfl rfl (by kernel_rfl) (by kernel_rfl) (by kernel_rfl) (by rfl) ?_ (by assumption) ?_; rotate_left; (focus (intro w0 hSw; (try dsimp only at hSw); go_simp; (try with_reducible rfl); done)); ((try simp only [Act.put, List.setIfInBounds_toArray]); (try dsimp only [List.set_cons_zero, List.set_cons_succ]))); (refine take_t (i := 10) (d := 22) (oi := _) (v := ?_) rfl rfl (by kernel_rfl) (by kernel_rfl) (by kernel_rfl) (by rfl) ?_ (by assumption) ?_; rotate_left; (focus (intro w0 hSw; (try dsimp only at hSw); go_simp; (try with_reducible rfl); done)); ((try simp only [Act.put, List.setIfInBounds_toArray]); (try dsimp only [List.set_cons_zero, List.set_cons_succ]))); (refine take_t (i := 11) (d := 23) (oi := _) (v := ?_) rfl rfl (by kernel_rfl) (by kernel_rfl) (by kernel_rfl) (by rfl) ?_ (by assumption) ?_; rotate_left; (focus (intro w0 hSw; (try dsimp only at hSw); go_simp; (try with_reducible rfl); done)); ((try simp only [Act.put, List.setIfInBounds_toArray]); (try dsimp only [List.set_cons_zero, List.set_cons_succ]))); (refine take_t (i := 12) (d := 24) (oi := _) (v := ?_) rfl rfl (by kernel_rfl) (by kernel_rfl) (by kernel_rfl) (by rfl) ?_ (by assumption) ?_; rotate_left; (focus (intro w0 hSw; (try dsimp only at hSw); go_simp; (try with_reducible rfl); done)); ((try simp only [Act.put, List.setIfInBounds_toArray]); (try dsimp only [List.set_cons_zero, List.set_cons_succ]))); (refine take_t (i := 13) (d := 25) (oi := _) (v := ?_) rfl rfl (by kernel_rfl) (by kernel_rfl) (by kernel_rfl) (by rfl) ?_ (by assumption) ?_; rotate_left; (focus (intro w0 hSw; (try dsimp only at hSw); go_simp; (try with_reducible rfl); done)); ((try simp only [Act.put, List.setIfInBounds_toArray]); (try dsimp only [List.set_cons_zero, List.set_cons_succ]))); (refine take_t (i := 14) (d := 26) (oi := _) (v := ?_) rfl rfl (by kernel_rfl) (by kernel_rfl) (by kernel_rfl) (by rfl) ?_ (by assumption) ?_; rotate_left; (focus (intro w0 hSw; (try dsimp only at hSw); go_simp; (try with_reducible rfl); done)); ((try simp only [Act.put, List.setIfInBounds_toArray]); (try dsimp only [List.set_cons_zero, List.set_cons_succ]))); (refine take_t (i := 15) (d := 27) (oi := _) (v := ?_) rfl rfl (by kernel_rfl) (by kernel_rfl) (by kernel_rfl) (by rfl) ?_ (by assumption) ?_; rotate_left; (focus (intro w0 hSw; (try dsimp only at hSw); go_simp; (try with_reducible rfl); done)); ((try simp only [Act.put, List.setIfInBounds_toArray]); (try dsimp only [List.set_cons_zero, List.set_cons_succ]))); (refine take_t (i := 16) (d := 28) (oi := _) (v := ?_) rfl rfl (by kernel_rfl) (by kernel_rfl) (by kernel_rfl) (by rfl) ?_ (by assumption) ?_; rotate_left; (focus (intro w0 hSw; (try dsimp only at hSw); go_simp; (try with_reducible rfl); done)); ((try simp only [Act.put, List.setIfInBounds_toArray]); (try dsimp only [List.set_cons_zero, List.set_cons_succ]))); (refine take_t (i := 17) (d := 29) (oi := _) (v := ?_) rfl rfl (by kernel_rfl) (by kernel_rfl) (by kernel_rfl) (by rfl) ?_ (by assumption) ?_; rotate_left; (focus (intro w0 hSw; (try dsimp only at hSw); go_simp; (try with_reducible rfl); done)); ((try simp only [Act.put, List.setIfInBounds_toArray]); (try dsimp only [List.set_cons_zero, List.set_cons_succ]))); (refine take_t (i := 18) (d := 30) (oi := _) (v := ?_) rfl rfl (by kernel_rfl) (by kernel_rfl) (by kernel_rfl) (by rfl) ?_ (by assumption) ?_; rotate_left; (focus (intro w0 hSw; (try dsimp only at hSw); go_simp; (try with_reducible rfl); done)); ((try simp only [Act.put, List.setIfInBounds_toArray]); (try dsimp only [List.set_cons_zero, List.set_cons_succ]))); refine wpAnyH_done (by kernel_rfl) ?_ _; refine NoPanic.normal ?_
              go_wp2
              go_meet
              exact ⟨by rw [hq, hlt.out, hxy.out]; rfl, hpb.out⟩
      obtain ⟨rfl, hp2⟩ := hcut
      replace hp2 := Lib.hid hp2
      clear hpb hmn
      cases hq : (nameOk xk && ltO (lastO Pr.key P i) xk) with
      | false =>
        have hR2 := hbad.out (by rw [hr3.out, hq]; rfl)
        replace hR2 := Lib.hid hR2
        go_wp2
        go_ret
        exact ⟨by rw [hR2.out]; rfl, hp2.out.bel⟩
      | true =>
        have c1 := hp2.out.cell (i := 0) rfl 1; have c2 := hp2.out.cell (i := 0) rfl 2; have c3 := hp2.out.cell (i := 0) rfl 3
        simp at c1 c2 c3
        by_cases hk0 : xd = 0
        · have hR2 := hbad.out (by rw [hr3.out, hq, hk0]; rfl)
          replace hR2 := Lib.hid hR2
          have e0 : (xd == 0) = true := by simp [hk0]
          go_wp2
          go_ret
          exact ⟨by rw [hR2.out]; rfl, hp2.out.bel⟩
        · have e0 : (xd == 0) = false := by simp [hk0]
          have e9 : (xd != 0) = true := by simp [hk0]
          cases gm with
          | false =>
            have hR2 := hbad.out (by rw [hr3.out, hq, e9]; rfl)
            replace hR2 := Lib.hid hR2
            clear e9
            go_wp2_with (go_at_call 77; (with_reducible refine (hvm.out _).mono ?_); rintro e w1 ⟨rfl, b1⟩; replace hp2 := Lib.hid (hp2.out.below b1); clear b1)
            go_ret
            exact ⟨by rw [hR2.out]; rfl, hp2.out.bel⟩
          | true =>
            have hr4 : propR none P = propR (lastO Pr.key P (i + 1)) (P.drop (i + 1)) := by rw [hr3.out, hq, e9]; simp
            replace hr4 := Lib.hid hr4
            clear e9
            go_wp2_with (go_at_call 77; (with_reducible refine (hvm.out _).mono ?_); rintro e w1 ⟨rfl, b1⟩; replace hp2 := Lib.hid (hp2.out.below b1); clear b1)
            go_roundg u
            case rel => exact ⟨i + 1, by go_num, by omega, hr4.out, hp2.out.drop 0⟩
            case measure => omega
end Go.Proofs.YtcdgnhhciccoeaaDoor.recw
end
section
namespace Go.Proofs.YtcdgnhhciccoeaaDoor.recw
open Go.RowKit
attribute [local go_sem ↓] Go.wp_at_zero Go.wp_at_succ
set_option linter.unusedVariables false
set_option linter.unusedSimpArgs false
set_option maxRecDepth 100000

set_option maxHeartbeats 16000000 in
theorem may_any (ed : Bool) (la : Value) (ty fm tw : Int) (pr : Value) (L : List Int) (P : List Pr) (w : World) (hla : Sl w la L.length (inC L)) (hpr : Sl w pr P.length (prC P)) (hvk : ∀ p ∈ P, VK p.vl) :
    Calls Tryd.prog 12 #[thV ed la ty fm tw pr] w fun e w' => e = .returned (.bool (thOk ed L ty fm tw P)) ∧ Below w.heap.size w w' := by
  have cl : ∀ W, Below w.heap.size w W → Calls Tryd.prog 48 #[la] W fun e w' => e = .returned (.bool (labsOk L)) ∧ Below W.heap.size W w' := fun W hb => mayLabels_any la L W (hla.below hb)
  have cp : ∀ W, Below w.heap.size w W → Calls Tryd.prog 47 #[pr] W fun e w' => e = .returned (.bool (propsOk P)) ∧ Below W.heap.size W w' := fun W hb => mayProps_any pr P W (hpr.below hb) hvk
  have cn := fun W => mayName_any ty W
  have hp0 := (Hp.none_ w []).alloc #[.bool ed, la, .int .i64 ty, .int .u64 fm, .int .u64 tw, pr] 26
  obtain ⟨R, hR⟩ : ∃ R, R = thOk ed L ty fm tw P := ⟨_, rfl⟩
  rw [← hR]
  unfold thOk at hR
  obtain ⟨lb, hlb⟩ : ∃ b, labsOk L = b := ⟨_, rfl⟩
  obtain ⟨pb, hpb⟩ : ∃ b, propsOk P = b := ⟨_, rfl⟩
  obtain ⟨nb, hnb⟩ : ∃ b, nameOk ty = b := ⟨_, rfl⟩
  rw [hlb] at cl hR
  rw [hpb] at cp hR
  rw [hnb] at cn hR
  clear hlb hpb hnb
  obtain ⟨a, n, lcp, rfl, hl0⟩ : ∃ a n lcp, la = .slice a n lcp ∧ n = L.length := by
    obtain ⟨a, lcp, h, _⟩ := hla; exact ⟨a, _, lcp, h, rfl⟩
  rw [← hl0] at hR
  replace hR := Lib.hid hR
  clear hla hpr hvk hl0
  replace cl := Lib.hid cl; replace cp := Lib.hid cp; replace cn := Lib.hid cn; replace hp0 := Lib.hid hp0
  unfold thV
  go_enter Tryd.func12, Tryd.ntmps12
  go_upto_region 1 with fail
  generalize w.alloc _ = W at hp0 ⊢
  generalize hq : w.heap.size = q at hp0 ⊢
  clear hq
  have c0 := hp0.out.cell (i := 0) rfl 0; have c1 := hp0.out.cell (i := 0) rfl 1; have c2 := hp0.out.cell (i := 0) rfl 2; have c3 := hp0.out.cell (i := 0) rfl 3; have c4 := hp0.out.cell (i := 0) rfl 4; have c5 := hp0.out.cell (i := 0) rfl 5
  simp at c0 c1 c2 c3 c4 c5
  cases ed with
  | true =>
    by_cases hn : n = 0
    · have e0 : ((n : Int) == 0) = true := by simp [hn]
      have ed0 : decide (n = 0) = true := by simp [hn]
      replace ed0 := Lib.hid ed0
      clear hn
      cases nb <;> cases pb
      all_goals
        go_wp2_with (first
          | (go_at_call 46; (with_reducible refine (cn.out _).mono ?_); rintro e w1 ⟨rfl, rfl⟩)
          | (go_at_call 47; (with_reducible refine (cp.out _ hp0.out.bel).mono ?_); rintro e w1 ⟨rfl, b1⟩; replace hp0 := Lib.hid (hp0.out.below b1); clear b1))
        go_ret
        exact ⟨by rw [hR.out]; simp only [if_true, ed0.out]; rfl, hp0.out.bel⟩
    · have e0 : ((n : Int) == 0) = false := by simp [hn]
      have ed0 : decide (n = 0) = false := by simp [hn]
      replace ed0 := Lib.hid ed0
      clear hn
      go_wp2
      go_ret
      exact ⟨by rw [hR.out]; simp only [if_true, ed0.out]; rfl, hp0.out.bel⟩
  | false =>
    obtain ⟨b2, h2⟩ : ∃ b, (ty == 0) = b := ⟨_, rfl⟩
    obtain ⟨b3, h3⟩ : ∃ b, (fm == 0) = b := ⟨_, rfl⟩
    obtain ⟨b4, h4⟩ : ∃ b, (tw == 0) = b := ⟨_, rfl⟩
    have k2 : decide (ty = 0) = b2 := h2
    have k3 : decide (fm = 0) = b3 := h3
    have k4 : decide (tw = 0) = b4 := h4
    replace k2 := Lib.hid k2; replace k3 := Lib.hid k3; replace k4 := Lib.hid k4
    cases b2
    · go_wp2
      go_ret
      exact ⟨by rw [hR.out]; simp only [if_false, if_true, Bool.false_eq_true, k2.out, k3.out, k4.out]; rfl, hp0.out.bel⟩
    cases b3
    · go_wp2
      go_ret
      exact ⟨by rw [hR.out]; simp only [if_false, if_true, Bool.false_eq_true, k2.out, k3.out, k4.out]; rfl, hp0.out.bel⟩
    cases b4
    · go_wp2
      go_ret
      exact ⟨by rw [hR.out]; simp only [if_false, if_true, Bool.false_eq_true, k2.out, k3.out, k4.out]; rfl, hp0.out.bel⟩
    cases lb <;> cases pb
    all_goals
      go_wp2_with (first
        | (go_at_call 48; (with_reducible refine (cl.out _ hp0.out.bel).mono ?_); rintro e w1 ⟨rfl, b1⟩; replace hp0 := Lib.hid (hp0.out.below b1); clear b1; replace c5 := hp0.out.cell (i := 0) rfl 5; simp at c5)
        | (go_at_call 47; (with_reducible refine (cp.out _ hp0.out.bel).mono ?_); rintro e w1 ⟨rfl, b1⟩; replace hp0 := Lib.hid (hp0.out.below b1); clear b1))
      go_ret
      exact ⟨by rw [hR.out]; simp only [if_false, if_true, Bool.false_eq_true, k2.out, k3.out, k4.out]; rfl, hp0.out.bel⟩
end Go.Proofs.YtcdgnhhciccoeaaDoor.recw
end
