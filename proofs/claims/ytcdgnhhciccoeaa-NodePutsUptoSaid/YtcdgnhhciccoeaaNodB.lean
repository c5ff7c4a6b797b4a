/- Whether a page may be, and its bytes then (node.May, node.Put). No condition but that there are few entries and pages, none of them too long. -/
import Derived.Test.YtcdgnhhciccoeaaNodA
namespace Go.Proofs.Ytcdgnhhciccoeaa.nod
open Go.RowKit
attribute [local go_sem ↓] Go.wp_at_zero Go.wp_at_succ
attribute [local go_sem] str_size
set_option linter.unusedVariables false
set_option linter.unusedSimpArgs false
set_option maxRecDepth 100000

def enOk (e : En) : Bool := !e.k.toList.isEmpty && decide (e.k.size ≤ 96) && decide (e.v.size ≤ 80)
def kdOk (x : Kd) : Bool := decide (x.lo.size ≤ 96) && decide (0 ≤ x.pl) && decide (x.pl < 4096) && decide (x.sm.size = 32)
def mayN (E : List En) (K : List Kd) : Bool := (decide (E.length = 0) != decide (K.length = 0)) && riseB (keysL E K) && E.all enOk && K.all kdOk
set_option maxHeartbeats 16000000 in
theorem may_any (ev kv : Value) (E : List En) (K : List Kd) (w : World) (he : Sl w ev E.length (enC E)) (hk : Sl w kv K.length (kdC K)) (hE : E.length ≤ 1000) (hK : K.length ≤ 1000) :
    Calls Try.prog 11 #[.agg #[ev, kv]] w fun e w' => e = .returned (.bool (mayN E K)) ∧ Below w.heap.size w w' := by
  have hp0 := (Hp.none_ w []).alloc #[ev, kv] 25
  have k1 : ∀ W', Below w.heap.size w W' → Calls Try.prog 30 #[.agg #[ev, kv]] W' fun e w' => ∃ v', e = .returned v' ∧ Hp W' [] [.row 9 1 v' (E.length + K.length) (kyC (keysL E K))] w' := fun W' hb => keys_any ev kv E K W' (he.below hb) (hk.below hb) hE hK
  have k2 : ∀ W' v', Sl W' v' (E.length + K.length) (kyC (keysL E K)) → Calls Try.prog 29 #[v'] W' fun e w' => e = .returned (.bool (riseB (keysL E K))) ∧ Below W'.heap.size W' w' := fun W' v' h => rise_any v' (keysL E K) W' (by rw [keysL_len]; exact h) (by rw [keysL_len]; omega)
  obtain ⟨R, hR⟩ : ∃ R, R = mayN E K := ⟨_, rfl⟩
  have hf1 : (E.length = 0 ↔ K.length = 0) → R = false := fun h => by rw [hR]; unfold mayN; by_cases h1 : E.length = 0 <;> simp [h1, ← h]
  have hf2 : riseB (keysL E K) = false → R = false := fun h => by rw [hR]; unfold mayN; rw [h]; simp
  have hf3 : ∀ x ∈ E, enOk x = false → R = false := fun x hx h => by
    have : E.all enOk = false := List.all_eq_false.2 ⟨x, hx, by simp [h]⟩
    rw [hR]; unfold mayN; rw [this]; simp
  have hf4 : ∀ x ∈ K, kdOk x = false → R = false := fun x hx h => by
    have : K.all kdOk = false := List.all_eq_false.2 ⟨x, hx, by simp [h]⟩
    rw [hR]; unfold mayN; rw [this]; simp
  have ht : ¬ (E.length = 0 ↔ K.length = 0) → riseB (keysL E K) = true → (∀ x ∈ E, enOk x = true) → (∀ x ∈ K, kdOk x = true) → R = true := fun h1 h2 h3 h4 => by
    rw [hR]; unfold mayN; rw [h2, List.all_eq_true.2 h3, List.all_eq_true.2 h4]
    by_cases h5 : E.length = 0 <;> by_cases h6 : K.length = 0 <;> simp [h5, h6] at h1 ⊢
  rw [← hR]
  clear hR
  obtain ⟨rs, hrs⟩ : ∃ r, r = riseB (keysL E K) := ⟨_, rfl⟩
  rw [← hrs] at k2 hf2 ht
  have hb1 : E.length + K.length ≤ 140737488355328 := by omega
  obtain ⟨a, ac, rfl, _, h1⟩ := he
  obtain ⟨b, bc, rfl, _, h2⟩ := hk
  obtain ⟨ne, hne⟩ : ∃ n, n = E.length := ⟨_, rfl⟩
  obtain ⟨nk, hnk⟩ : ∃ n, n = K.length := ⟨_, rfl⟩
  rw [← hne] at h1 hp0 hE hf1 ht k1 k2 hb1 ⊢
  rw [← hnk] at h2 hp0 hK hf1 ht k1 k2 hb1 ⊢
  replace h1 := Lib.hid h1; replace h2 := Lib.hid h2; replace hne := Lib.hid hne; replace hnk := Lib.hid hnk; replace hp0 := Lib.hid hp0; replace k1 := Lib.hid k1; replace k2 := Lib.hid k2; replace hf1 := Lib.hid hf1; replace hf2 := Lib.hid hf2; replace hf3 := Lib.hid hf3; replace hf4 := Lib.hid hf4; replace ht := Lib.hid ht; replace hb1 := Lib.hid hb1
  clear hrs
  go_enter Try.func11, Try.ntmps11
  go_upto_region 1 with fail
  generalize w.alloc _ = W at hp0 ⊢
  generalize hq2 : w.heap.size = q at hp0 ⊢
  clear hq2
  have hcs : ∀ (rs : List Rs) (i : Nat) (W' : World), Hp w [] rs W' → rs[i]? = some (.box q #[.slice a ne ac, .slice b nk bc] 25) → W'.cell? ⟨q, 0, none⟩ = some (.slice a ne ac) ∧ W'.cell? ⟨q, 1, none⟩ = some (.slice b nk bc) := fun rs i W' h hi => ⟨(h.cell hi 0).trans rfl, (h.cell hi 1).trans rfl⟩
  replace hcs := Lib.hid hcs
  obtain ⟨c0, c1⟩ := hcs.out _ 0 _ hp0.out rfl
  have hp := hp0
  clear hp0
  by_cases q1 : (ne = 0 ↔ nk = 0)
  · have hRf := Lib.hid (hf1.out q1)
    by_cases z : ne = 0
    · have z2 := q1.1 z
      subst z z2
      go_wp2
      go_ret
      exact ⟨by rw [hRf.out]; rfl, hp.out.bel⟩
    · have z2 : ¬ nk = 0 := fun h => z (q1.2 h)
      have g1 : ¬ (ne : Int) = 0 := by omega
      have g2 : ¬ (nk : Int) = 0 := by omega
      have g3 : ((ne : Int) == 0) = false := by simpa using g1
      have g4 : ((nk : Int) == 0) = false := by simpa using g2
      clear q1 g1 g2
      go_wp2
      go_ret
      exact ⟨by rw [hRf.out]; rfl, hp.out.bel⟩
  go_cut [22] from 8 to 22 (fun s22 wx => s22 = .bool (!rs) ∧ Hp w [] [.box q #[.slice a ne ac, .slice b nk bc] 25] wx)
  case first =>
    by_cases z : ne = 0
    · have g2 : ((nk : Int) == 0) = false := by simp; omega
      subst z
      simp only [Nat.zero_add] at k1 k2 hb1
      clear q1
      go_wp2_with (first | (go_at_call 30; (with_reducible refine (k1.out _ hp.out.bel).mono ?_); rintro e w2 ⟨kv', rfl, h2'⟩; obtain ⟨ad2, cp2, rfl⟩ := rowShape (h2'.row (i := 0) rfl); replace hp := Lib.hid (hp.out.take h2'); clear h2') | (go_at_call 29; (with_reducible refine (k2.out _ _ (hp.out.sl (i := 0) rfl hb1.out)).mono ?_); rintro e w3 ⟨rfl, b3⟩; replace hp := Lib.hid (hp.out.below b3); clear b3))
      go_meet
      exact ⟨rfl, hp.out.drop 0⟩
    · have g3 : nk = 0 := by omega
      have g1 : ((ne : Int) == 0) = false := by simp; omega
      subst g3
      simp only [Nat.add_zero] at k1 k2 hb1
      clear q1 z
      go_wp2_with (first | (go_at_call 30; (with_reducible refine (k1.out _ hp.out.bel).mono ?_); rintro e w2 ⟨kv', rfl, h2'⟩; obtain ⟨ad2, cp2, rfl⟩ := rowShape (h2'.row (i := 0) rfl); replace hp := Lib.hid (hp.out.take h2'); clear h2') | (go_at_call 29; (with_reducible refine (k2.out _ _ (hp.out.sl (i := 0) rfl hb1.out)).mono ?_); rintro e w3 ⟨rfl, b3⟩; replace hp := Lib.hid (hp.out.below b3); clear b3))
      go_meet
      exact ⟨rfl, hp.out.drop 0⟩
  case rest =>
    obtain ⟨rfl, hp2⟩ := hcut
    clear c0 c1 hp
    have hp := Lib.hid hp2
    clear hp2
    cases rs with
    | false =>
      have hRf := Lib.hid (hf2.out rfl)
      clear q1
      go_wp2
      go_ret
      exact ⟨by rw [hRf.out]; rfl, hp.out.bel⟩
    | true =>
      have htt := Lib.hid (ht.out q1 rfl)
      clear q1
      obtain ⟨c0, c1⟩ := hcs.out _ 0 _ hp.out rfl
      go_upto_region 4 with fail
      clear c0 c1
      go_loopg [26] ne (fun gm s26 wr => ∃ i : Nat, s26 = .int .i64 (i : Int) ∧ i + gm = ne ∧ (∀ x ∈ E.take i, enOk x = true) ∧ Hp w [] [.box q #[.slice a ne ac, .slice b nk bc] 25] wr)
      case atStart => exact ⟨0, rfl, by omega, (fun x hx => by cases hx), hp.out⟩
      case round =>
        clear hp
        obtain ⟨i, rfl, hi, hok, hp⟩ := hrel
        replace hp := Lib.hid hp; replace hok := Lib.hid hok
        cases gk with
        | succ u =>
          have e1 : (i : Int) < (ne : Int) := by omega
          have e2 : (0 : Int) ≤ (i : Int) := by omega
          obtain ⟨bb, o, rfl, hr⟩ := h1.out.resolve_left (by omega)
          obtain ⟨x, hx⟩ : ∃ x, E[i]? = some x := ⟨_, List.getElem?_eq_getElem (by have := hne.out; omega)⟩
          have hbad := hf3.out x (List.mem_of_getElem? hx)
          have hgood : enOk x = true → ∀ y ∈ E.take (i + 1), enOk y = true := fun h y hy => by
            rw [List.take_add_one, hx] at hy
            rcases List.mem_append.1 hy with hy | hy
            · exact hok.out y hy
            · simp at hy; subst hy; exact h
          obtain ⟨xk, xv⟩ := x
          have d0 : wr.cell? ⟨bb, o + i * 2, none⟩ = some (.string xk) := (hp.out.bel.cell hr.1).trans (hr.elem0 En.c_len hx rfl)
          have d1 : wr.cell? ⟨bb, o + i * 2 + 1, none⟩ = some (.string xv) := (hp.out.bel.cell hr.1).trans (hr.elem En.c_len hx rfl)
          replace hbad := Lib.hid hbad; replace hgood := Lib.hid hgood
          clear hr hx
          go_upto_region 6 with fail
          have hp2 := Lib.hid (hp.out.alloc #[.string xk, .string xv] 43)
          clear d0 d1 hp
          generalize wr.alloc _ = W5 at hp2 ⊢
          generalize wr.heap.size = qb at hp2 ⊢
          have c0 := hp2.out.cell (i := 0) rfl 0; have c1 := hp2.out.cell (i := 0) rfl 1
          simp at c0 c1
          cases t1 : xk.toList.isEmpty with
          | true =>
            have hRf := Lib.hid (hbad.out (by unfold enOk; simp [t1]))
            go_wp2
            go_ret
            exact ⟨by rw [hRf.out]; rfl, hp2.out.bel⟩
          | false =>
            by_cases t2 : xk.size ≤ 96
            · have t2' : ¬ (96 : Int) < (xk.size : Int) := by omega
              by_cases t3 : xv.size ≤ 80
              · have t3' : ¬ (80 : Int) < (xv.size : Int) := by omega
                have hg := Lib.hid (hgood.out (by unfold enOk; simp [t1, t2, t3]))
                clear t2 t3
                go_wp2
                go_roundg u
                case rel => exact ⟨i + 1, by go_num, by omega, hg.out, hp2.out.drop 0⟩
                case measure => omega
              · have t3' : (80 : Int) < (xv.size : Int) := by omega
                have hRf := Lib.hid (hbad.out (by unfold enOk; simp [t3]))
                clear t2 t3
                go_wp2
                go_ret
                exact ⟨by rw [hRf.out]; rfl, hp2.out.bel⟩
            · have t2' : (96 : Int) < (xk.size : Int) := by omega
              have hRf := Lib.hid (hbad.out (by unfold enOk; simp [t2]))
              clear t2
              go_wp2
              go_ret
              exact ⟨by rw [hRf.out]; rfl, hp2.out.bel⟩
        | zero =>
          obtain rfl : i = ne := by omega
          have e1 : ¬ (i : Int) < (i : Int) := by omega
          have hokE : ∀ x ∈ E, enOk x = true := by rw [List.take_of_length_le (by have := hne.out; omega)] at hok; exact hok.out
          have htt2 := Lib.hid (htt.out hokE)
          clear hok hokE
          obtain ⟨c0, c1⟩ := hcs.out _ 0 _ hp.out rfl
          go_upto_region 10 with fail
          clear c0 c1
          go_loopg [49] nk (fun gm s49 wr => ∃ m : Nat, s49 = .int .i64 (m : Int) ∧ m + gm = nk ∧ (∀ x ∈ K.take m, kdOk x = true) ∧ Hp w [] [.box q #[.slice a i ac, .slice b nk bc] 25] wr)
          case atStart => exact ⟨0, rfl, by omega, (fun x hx => by cases hx), hp.out⟩
          case round =>
            clear hp
            obtain ⟨m, rfl, hm, hok, hp⟩ := hrel
            replace hp := Lib.hid hp; replace hok := Lib.hid hok
            cases gk with
            | succ u =>
              have e1 : (m : Int) < (nk : Int) := by omega
              have e2 : (0 : Int) ≤ (m : Int) := by omega
              obtain ⟨bb, o, rfl, hr⟩ := h2.out.resolve_left (by omega)
              obtain ⟨x, hx⟩ : ∃ x, K[m]? = some x := ⟨_, List.getElem?_eq_getElem (by have := hnk.out; omega)⟩
              have hbad := hf4.out x (List.mem_of_getElem? hx)
              have hgood : kdOk x = true → ∀ y ∈ K.take (m + 1), kdOk y = true := fun h y hy => by
                rw [List.take_add_one, hx] at hy
                rcases List.mem_append.1 hy with hy | hy
                · exact hok.out y hy
                · simp at hy; subst hy; exact h
              obtain ⟨xl, xp, xs⟩ := x
              have d0 : wr.cell? ⟨bb, o + m * 3, none⟩ = some (.string xl) := (hp.out.bel.cell hr.1).trans (hr.elem0 Kd.c_len hx rfl)
              have d1 : wr.cell? ⟨bb, o + m * 3 + 1, none⟩ = some (.int .i64 xp) := (hp.out.bel.cell hr.1).trans (hr.elem Kd.c_len hx rfl)
              have d2 : wr.cell? ⟨bb, o + m * 3 + 2, none⟩ = some (.string xs) := (hp.out.bel.cell hr.1).trans (hr.elem Kd.c_len hx rfl)
              replace hbad := Lib.hid hbad; replace hgood := Lib.hid hgood
              clear hr hx
              go_upto_region 12 with fail
              have hp2 := Lib.hid (hp.out.alloc #[.string xl, .int .i64 xp, .string xs] 41)
              clear d0 d1 d2 hp
              generalize wr.alloc _ = W5 at hp2 ⊢
              generalize wr.heap.size = qb at hp2 ⊢
              have c0 := hp2.out.cell (i := 0) rfl 0; have c1 := hp2.out.cell (i := 0) rfl 1; have c2 := hp2.out.cell (i := 0) rfl 2
              simp at c0 c1 c2
              go_upto_region 13 with fail
              have hp3 := Lib.hid (hp2.out.alloc #[.int .i64 xp, .string xs] 39)
              clear c0 c1 c2 hp2
              generalize W5.alloc _ = W6 at hp3 ⊢
              generalize W5.heap.size = qr at hp3 ⊢
              have c0 := hp3.out.cell (i := 1) rfl 0; have c1 := hp3.out.cell (i := 1) rfl 1; have c2 := hp3.out.cell (i := 1) rfl 2
              have r0 := hp3.out.cell (i := 0) rfl 0; have r1 := hp3.out.cell (i := 0) rfl 1
              simp at c0 c1 c2 r0 r1
              by_cases t1 : xl.size ≤ 96
              · have t1' : ¬ (96 : Int) < (xl.size : Int) := by omega
                by_cases t2 : 0 ≤ xp
                · have t2' : ¬ xp < (0 : Int) := by omega
                  by_cases t3 : xp < 4096
                  · have t3' : ¬ (4096 : Int) ≤ xp := by omega
                    by_cases t4 : xs.size = 32
                    · have hg := Lib.hid (hgood.out (by unfold kdOk; simp [t1, t2, t3, t4]))
                      have t4' : (xs.size : Int) = 32 := by omega
                      clear t1 t2 t3
                      go_wp2
                      go_roundg u
                      case rel => exact ⟨m + 1, by go_num, by omega, hg.out, (hp3.out.drop 0).drop 0⟩
                      case measure => omega
                    · have t4' : ¬ (xs.size : Int) = 32 := by omega
                      have hRf := Lib.hid (hbad.out (by unfold kdOk; simp [t4]))
                      clear t1 t2 t3
                      go_wp2
                      go_ret
                      exact ⟨by rw [hRf.out]; rfl, hp3.out.bel⟩
                  · have t3' : (4096 : Int) ≤ xp := by omega
                    have hRf := Lib.hid (hbad.out (by unfold kdOk; simp [t3]))
                    clear t1 t2 t3
                    go_wp2
                    go_ret
                    exact ⟨by rw [hRf.out]; rfl, hp3.out.bel⟩
                · have t2' : xp < (0 : Int) := by omega
                  have hRf := Lib.hid (hbad.out (by unfold kdOk; simp [t2]))
                  clear t1 t2
                  go_wp2
                  go_ret
                  exact ⟨by rw [hRf.out]; rfl, hp3.out.bel⟩
              · have t1' : (96 : Int) < (xl.size : Int) := by omega
                have hRf := Lib.hid (hbad.out (by unfold kdOk; simp [t1]))
                clear t1
                go_wp2
                go_ret
                exact ⟨by rw [hRf.out]; rfl, hp3.out.bel⟩
            | zero =>
              obtain rfl : m = nk := by omega
              have e1 : ¬ (m : Int) < (m : Int) := by omega
              have hRt := htt2.out (by rw [List.take_of_length_le (by have := hnk.out; omega)] at hok; exact hok.out)
              replace hRt := Lib.hid hRt
              clear hok
              go_wp2
              go_ret
              exact ⟨by rw [hRt.out]; rfl, hp.out.bel⟩
end Go.Proofs.Ytcdgnhhciccoeaa.nod
