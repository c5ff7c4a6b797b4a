/- A page's bytes (node.Put), and a page of entries out of its bytes (node.Get). No condition but that there are few entries and pages, none of them too long; for Get, that the page may be. -/
import Derived.Test.YtcdgnhhciccoeaaNodB
import Derived.Test.YtcdgnhhciccoeaaReadE
import Derived.Deep.CutBlock
import Derived.Deep.RegionLaw
namespace Go.Proofs.Ytcdgnhhciccoeaa.nod
open Go.RowKit
open code (numL textL rdC)
attribute [local go_sem ↓] Go.wp_at_zero Go.wp_at_succ
attribute [local go_sem] str_size
set_option linter.unusedVariables false
set_option linter.unusedSimpArgs false
set_option maxRecDepth 100000

def putB (E : List En) (K : List Kd) : List UInt8 := if mayN E K && decide ((nodB E K).length ≤ 462) then nodB E K else []
theorem put_any (ev kv : Value) (E : List En) (K : List Kd) (w : World) (he : Sl w ev E.length (enC E)) (hk : Sl w kv K.length (kdC K)) (hE : SmE E) (hK : SmK K) :
    Calls Try.prog 6 #[.agg #[ev, kv]] w fun e w' => e = .returned (.string (str (putB E K))) ∧ Below w.heap.size w w' := by
  have hp0 := (Hp.none_ w []).alloc #[ev, kv] 25
  have k1 : ∀ W', Below w.heap.size w W' → Calls Try.prog 11 #[.agg #[ev, kv]] W' fun e w' => e = .returned (.bool (mayN E K)) ∧ Below W'.heap.size W' w' := fun W' hb => may_any ev kv E K W' (he.below hb) (hk.below hb) (by have := hE.1; omega) (by have := hK.1; omega)
  have k2 : ∀ W', Below w.heap.size w W' → Calls Try.prog 18 #[.agg #[ev, kv]] W' fun e w' => e = .returned (.string (str (nodB E K))) ∧ Below W'.heap.size W' w' := fun W' hb => bytes_any ev kv E K W' (he.below hb) (hk.below hb) hE hK
  obtain ⟨R, hR⟩ : ∃ R, R = putB E K := ⟨_, rfl⟩
  rw [← hR]
  unfold putB at hR
  obtain ⟨a, ac, rfl, -, -⟩ := he
  obtain ⟨b, bc, rfl, -, -⟩ := hk
  clear hE hK
  generalize hm : mayN E K = m at k1 hR
  generalize nodB E K = B at k2 hR
  generalize E.length = ne at *
  generalize K.length = nk at *
  replace hp0 := Lib.hid hp0; replace k1 := Lib.hid k1; replace k2 := Lib.hid k2; replace hR := Lib.hid hR; replace hm := Lib.hid hm
  go_enter Try.func6, Try.ntmps6
  go_upto_region 1 with fail
  generalize w.alloc _ = W at hp0 ⊢
  generalize hq2 : w.heap.size = q at hp0 ⊢
  clear hq2
  have hcs : ∀ (W' : World), Hp w [] [.box q #[.slice a ne ac, .slice b nk bc] 25] W' → W'.cell? ⟨q, 0, none⟩ = some (.slice a ne ac) ∧ W'.cell? ⟨q, 1, none⟩ = some (.slice b nk bc) := fun W' h => ⟨(h.cell (i := 0) rfl 0).trans rfl, (h.cell (i := 0) rfl 1).trans rfl⟩
  replace hcs := Lib.hid hcs
  obtain ⟨c0, c1⟩ := hcs.out _ hp0.out
  have hp := hp0
  clear hp0
  cases m with
  | false =>
    have hRf := Lib.hid (hR.out.trans rfl)
    go_wp2_with (go_at_call 11; (with_reducible refine (k1.out _ hp.out.bel).mono ?_); rintro e w1 ⟨rfl, b1⟩; replace hp := Lib.hid (hp.out.below b1); clear b1)
    go_ret
    exact ⟨by rw [hRf.out]; rfl, hp.out.bel⟩
  | true =>
    go_upto_region 3 with (go_at_call 11; (with_reducible refine (k1.out _ hp.out.bel).mono ?_); rintro e w1 ⟨rfl, b1⟩; replace hp := Lib.hid (hp.out.below b1); clear b1)
    clear c0 c1
    obtain ⟨c0, c1⟩ := hcs.out _ hp.out
    by_cases h4 : B.length ≤ 462
    · have h5 : ¬ (462 : Int) < (B.length : Int) := by omega
      have hRf := hR.out
      rw [decide_eq_true h4] at hRf
      replace hRf := Lib.hid (hRf.trans rfl)
      clear h4
      go_wp2_with (go_at_call 18; (with_reducible refine (k2.out _ hp.out.bel).mono ?_); rintro e w1 ⟨rfl, b1⟩; replace hp := Lib.hid (hp.out.below b1); clear b1)
      go_ret
      exact ⟨by rw [hRf.out]; rfl, hp.out.bel⟩
    · have h5 : (462 : Int) < (B.length : Int) := by omega
      have hRf := hR.out
      rw [decide_eq_false h4] at hRf
      replace hRf := Lib.hid (hRf.trans rfl)
      clear h4
      go_wp2_with (go_at_call 18; (with_reducible refine (k2.out _ hp.out.bel).mono ?_); rintro e w1 ⟨rfl, b1⟩; replace hp := Lib.hid (hp.out.below b1); clear b1)
      go_ret
      exact ⟨by rw [hRf.out]; rfl, hp.out.bel⟩
theorem get_results (tmps : Array Value) (W' : World) (g : Nat) (cs : Array Value) (er : Value) (h2 : tmps.getD 2 undef = .pointer (some ⟨g, 0, none⟩)) (h3 : tmps.getD 3 undef = er) (hg : W'.heap[g]? = some (.cells cs 25 (0, 0))) (hi : cs.size = 2) :
    (results Try.f9 tmps).run Try.prog W' = .ok (.tuple #[.agg cs, er]) W' := by
  have h2' : tmps[2]?.getD undef = .pointer (some ⟨g, 0, none⟩) := by simpa using h2
  have h3' : tmps[3]?.getD undef = er := by simpa using h3
  have hs : (Try.prog.info? 25).map (·.size) = some cs.size := by rw [hi]; kernel_rfl
  simp [results, Try.results9, h2', h3', asAddr, run_loadVar_row W' g 25 25 cs (0, 0) _ hg Try.underlying25 rfl hs]
theorem text_rd (s : ByteArray) (n : Nat) (hs : s.size ≤ n) (hn : n ≤ 1000) {w : World} {g : Nat} {r : List UInt8} (h : w.heap[g]? = some (.cells (rdC (txL s ++ r) 0) 72 (0, 0))) :
    Calls Try.prog 25 #[.pointer (some ⟨g, 0, none⟩), .int .i64 (n : Int)] w fun e w' => e = .returned (.string s) ∧ w'.heap[g]? = some (.cells (rdC r 0) 72 (0, 0)) ∧ Keeps [g] w w' := by
  have hz := bl_len s
  have := code.text_read s.data.toList (n : Int) (by omega) (by omega) (by omega) (show code.RdAt w g (textL s.data.toList ++ r) 0 from h)
  rwa [txL_put] at this
theorem err_rd {w : World} {g : Nat} {l : List UInt8} (h : w.heap[g]? = some (.cells (rdC l 0) 72 (0, 0))) :
    Calls Try.prog 27 #[.pointer (some ⟨g, 0, none⟩)] w fun e w' => e = .returned (.int .i64 0) ∧ Below w.heap.size w w' := code.err_any (show code.RdAt w g l 0 from h)
set_option maxHeartbeats 32000000 in
theorem getE_put (E : List En) (w : World) (hm : mayN E [] = true) (hlen : (nodB E []).length ≤ 462) (hE : E.length ≤ 100) :
    Calls Try.prog 9 #[.string (str (nodB E []))] w fun e w' => ∃ ev, e = .returned (.tuple #[.agg #[ev, .slice none 0 0], .int .i64 0]) ∧ Sl w' ev E.length (enC E) ∧ Below w.heap.size w w' := by
  have hmay : ∀ W ev, Sl W ev E.length (enC E) → Calls Try.prog 11 #[.agg #[ev, .slice none 0 0]] W fun e w' => e = .returned (.bool true) ∧ Below W.heap.size W w' := fun W ev h1 => by
    have := may_any ev (.slice none 0 0) E [] W h1 (Sl.nil _) (by omega) (by decide)
    rwa [hm] at this
  have hok : ∀ x ∈ E, x.k.size ≤ 96 ∧ x.v.size ≤ 80 := fun x hx => by
    unfold mayN at hm
    simp only [Bool.and_eq_true, List.all_eq_true] at hm
    have := hm.1.2 x hx
    unfold enOk at this
    simp only [Bool.and_eq_true, decide_eq_true_eq] at this
    exact ⟨this.1.2, this.2⟩
  have hB : nodB E [] = 76 :: (numL E.length ++ E.flatMap entB) := by unfold nodB markB; simp
  obtain ⟨s, hs⟩ : ∃ s, s = nodB E [] := ⟨_, rfl⟩
  rw [← hs] at hlen hB ⊢
  obtain ⟨ne, hne⟩ : ∃ n, n = E.length := ⟨_, rfl⟩
  rw [← hne] at hB hmay hE ⊢
  have hlen4 : ¬ (462 : Int) < (s.length : Int) := by omega
  have hrd := fun W => code.read_any (str s) W
  rw [str_toList] at hrd
  have hmk : (str [76]) = ⟨#[76]⟩ := rfl
  have hbt : ∀ (W : World) g, W.heap[g]? = some (.cells (rdC s 0) 72 (0, 0)) → Calls Try.prog 23 #[.pointer (some ⟨g, 0, none⟩), .int .i64 1] W fun e w' => e = .returned (.string ⟨#[76]⟩) ∧ w'.heap[g]? = some (.cells (rdC (numL ne ++ E.flatMap entB) 0) 72 (0, 0)) ∧ Keeps [g] W w' := fun W g h => by
    have := code.bytes_take (show code.RdAt W g s 0 from h) 1 (by rw [hB]; simp)
    rw [hB] at this
    exact this
  have hnm : ∀ (W : World) g, W.heap[g]? = some (.cells (rdC (numL ne ++ E.flatMap entB) 0) 72 (0, 0)) → Calls Try.prog 24 #[.pointer (some ⟨g, 0, none⟩), .int .u64 462] W fun e w' => e = .returned (.int .u64 (ne : Int)) ∧ w'.heap[g]? = some (.cells (rdC (E.flatMap entB) 0) 72 (0, 0)) ∧ Keeps [g] W w' := fun W g h => code.num_read ne 462 (by omega) (by decide) (show code.RdAt W g (numL ne ++ E.flatMap entB) 0 from h)
  have hend : ∀ (W : World) g, W.heap[g]? = some (.cells (rdC [] 0) 72 (0, 0)) → Calls Try.prog 28 #[.pointer (some ⟨g, 0, none⟩)] W fun e w' => e = .returned (.int .i64 0) ∧ Keeps [g] W w' := fun W g h => code.end_read h
  have hp0 := (Hp.none_ w []).alloc #[.slice none 0 0, .slice none 0 0] 25
  replace hrd := Lib.hid hrd; replace hmay := Lib.hid hmay; replace hok := Lib.hid hok; replace hne := Lib.hid hne; replace hbt := Lib.hid hbt; replace hnm := Lib.hid hnm; replace hend := Lib.hid hend; replace hp0 := Lib.hid hp0
  clear hm hlen hB hs hmk
  go_enter Try.func9, Try.ntmps9
  go_upto_region 1 with fail
  generalize w.alloc _ = W at hp0 ⊢
  generalize hq : w.heap.size = q0 at hp0 ⊢
  clear hq
  go_upto_region 2 with (go_at_call 22; (with_reducible refine (hrd.out _).mono ?_); rintro e w1 ⟨rfl, rd1, b1⟩; have hp1 := Lib.hid (hp0.out.made rd1 (Nat.le_refl _) b1); clear rd1 b1)
  generalize W.heap.size = g at hp1 ⊢
  have hp : Hid (Hp w [] [.box g (rdC s 0) 72, .box q0 #[.slice none 0 0, .slice none 0 0] 25] w1) := hp1
  clear hp1 hp0 hrd
  go_upto_region 3 with (go_at_call 23; (with_reducible refine (hbt.out _ _ (hp.out.box (i := 0) rfl)).mono ?_); rintro e w2 ⟨rfl, rd2, k2⟩; replace hp := Lib.hid (hp.out.call (i := 0) rfl rd2 k2); clear rd2 k2)
  have hp2 := Lib.hid (hp.out.alloc #[.slice none 0 0, .slice none 0 0] 25)
  go_upto_region 4 with fail
  generalize w2.alloc _ = W3 at hp2 ⊢
  generalize w2.heap.size = gx at hp2 ⊢
  have hp3 : Hid (Hp w [] [.row 43 2 (.slice none 0 0) 0 [], .box gx #[.slice none 0 0, .slice none 0 0] 25, .box g (rdC (numL ne ++ E.flatMap entB) 0) 72, .box q0 #[.slice none 0 0, .slice none 0 0] 25] W3) := (hp2.out.rowNil 43 2)
  clear hp hp2 hbt
  have hp := hp3
  clear hp3
  go_upto_region 5 with (go_at_call 24; (with_reducible refine (hnm.out _ _ (hp.out.box (i := 2) rfl)).mono ?_); rintro e w2 ⟨rfl, rd2, k2⟩; replace hp := Lib.hid (hp.out.call (i := 2) rfl rd2 k2); clear rd2 k2)
  clear hnm
  go_loopg [16] ne (fun gj s16 wr => ∃ (j : Nat) (ad : Option Addr) (cp : Nat), s16 = .int .u64 (j : Int) ∧ j + gj = ne ∧ Hp w [] [.row 43 2 (.slice ad j cp) j (enC (E.take j)), .box gx #[.slice ad j cp, .slice none 0 0] 25, .box g (rdC ((E.drop j).flatMap entB) 0) 72, .box q0 #[.slice none 0 0, .slice none 0 0] 25] wr)
  case atStart => exact ⟨0, none, 0, rfl, by omega, hp.out⟩
  case round =>
    clear hp
    obtain ⟨j, ad, cp, rfl, hjn, hp⟩ := hrel
    replace hp := Lib.hid hp
    cases gk with
    | zero =>
      obtain rfl : j = ne := by omega
      have e1 : ¬ ((j : Int) < (j : Int)) := by omega
      have hi1 : enC (E.take j) = enC E := by rw [List.take_of_length_le (by rw [← hne.out]; exact Nat.le_refl _)]
      have hi2 : (E.drop j).flatMap entB = [] := by rw [List.drop_eq_nil_of_le (by rw [← hne.out]; exact Nat.le_refl _)]; rfl
      rw [hi1, hi2] at hp
      clear hi1 hi2
      go_upto_region 19 with (go_at_call 28; (with_reducible refine (hend.out _ _ (hp.out.box (i := 2) rfl)).mono ?_); rintro e w5 ⟨rfl, k5⟩; have hp5 := Lib.hid (hp.out.lose (i := 2) rfl k5); clear k5)
      have hp6 : Hid (Hp w [] [.row 43 2 (.slice ad j cp) j (enC E), .box gx #[.slice ad j cp, .slice none 0 0] 25, .box q0 #[.slice none 0 0, .slice none 0 0] 25] w5) := hp5
      clear hp5 hp hend
      have hsl : ∀ W, Hp w [] [.row 43 2 (.slice ad j cp) j (enC E), .box gx #[.slice ad j cp, .slice none 0 0] 25, .box q0 #[.slice none 0 0, .slice none 0 0] 25] W → Sl W (.slice ad j cp) j (enC E) ∧ W.cell? ⟨gx, 0, none⟩ = some (.slice ad j cp) ∧ W.cell? ⟨gx, 1, none⟩ = some (.slice none 0 0) := fun W h => ⟨h.sl (i := 0) rfl (by omega), (h.cell (i := 1) rfl 0).trans rfl, (h.cell (i := 1) rfl 1).trans rfl⟩
      replace hsl := Lib.hid hsl
      obtain ⟨-, c0, c1⟩ := hsl.out _ hp6.out
      go_upto_region 21 with (go_at_call 11; (with_reducible refine (hmay.out _ _ (hsl.out _ hp6.out).1).mono ?_); rintro e w6 ⟨rfl, b6⟩; replace hp6 := Lib.hid (hp6.out.below b6); clear b6)
      clear c0 c1
      obtain ⟨-, c0, c1⟩ := hsl.out _ hp6.out
      have y0 := hp6.out.free (i := 2) rfl 0; have y1 := hp6.out.free (i := 2) rfl 1
      have z0 := hp6.out.cell (i := 2) rfl 0; have z1 := hp6.out.cell (i := 2) rfl 1
      simp at z0 z1
      have hpf := Lib.hid ((hp6.out.put (i := 2) rfl 0 (.slice ad j cp)).put (i := 2) rfl 1 (.slice none 0 0))
      clear hp6
      go_wp2
      (try simp only [Exit.inBlock, Exit.then])
      refine bodyPost_ret (get_results _ _ q0 #[.slice ad j cp, .slice none 0 0] _ rfl rfl (hpf.out.box (i := 2) rfl) rfl) rfl ?_
      exact ⟨_, rfl, hpf.out.sl (i := 0) rfl (by omega), hpf.out.bel⟩
    | succ u =>
      have e1 : (j : Int) < (ne : Int) := by omega
      obtain ⟨x, hx⟩ : ∃ x, E[j]? = some x := ⟨_, List.getElem?_eq_getElem (by have := hne.out; omega)⟩
      obtain ⟨hx1, hx2⟩ := hok.out x (List.mem_of_getElem? hx)
      have hdr : (E.drop j).flatMap entB = txL x.k ++ (txL x.v ++ (E.drop (j + 1)).flatMap entB) := by rw [dropC hx]; simp [entB]
      rw [hdr] at hp
      have hzs : enC (E.take j) ++ [.string x.k, .string x.v] = enC (E.take (j + 1)) := by rw [List.take_add_one, hx, enC_append]; rfl
      have t1 : ∀ (W : World), W.heap[g]? = some (.cells (rdC (txL x.k ++ (txL x.v ++ (E.drop (j + 1)).flatMap entB)) 0) 72 (0, 0)) → Calls Try.prog 25 #[.pointer (some ⟨g, 0, none⟩), .int .i64 96] W fun e w' => e = .returned (.string x.k) ∧ w'.heap[g]? = some (.cells (rdC (txL x.v ++ (E.drop (j + 1)).flatMap entB) 0) 72 (0, 0)) ∧ Keeps [g] W w' := fun W h => text_rd x.k 96 hx1 (by decide) h
      have t2 : ∀ (W : World), W.heap[g]? = some (.cells (rdC (txL x.v ++ (E.drop (j + 1)).flatMap entB) 0) 72 (0, 0)) → Calls Try.prog 25 #[.pointer (some ⟨g, 0, none⟩), .int .i64 80] W fun e w' => e = .returned (.string x.v) ∧ w'.heap[g]? = some (.cells (rdC ((E.drop (j + 1)).flatMap entB) 0) 72 (0, 0)) ∧ Keeps [g] W w' := fun W h => text_rd x.v 80 hx2 (by decide) h
      obtain ⟨m, hm1⟩ : ∃ m, j + 1 = m := ⟨_, rfl⟩
      rw [hm1] at hzs t1 t2 hp
      obtain ⟨xk, xv⟩ := x
      simp only at t1 t2 hzs hp
      have hsl : ∀ W : World, Sl (W.alloc (.cells #[.string xk, .string xv] 43)) (.slice (some ⟨W.heap.size, 0, none⟩) 1 1) 1 [.string xk, .string xv] := fun W =>
        ⟨_, _, rfl, by omega, Or.inr ⟨_, 0, rfl, by simp, fun j v hj => by
          rw [Nat.zero_add]
          exact (newCell W _ _ j).trans (by simpa using hj)⟩⟩
      have hon : ∀ u ∈ [Value.string xk, .string xv], u.oneCell' = true := fun u hu => by simp at hu; rcases hu with rfl | rfl <;> rfl
      have hnb : j + 1 ≤ 100000000 := by omega
      have hmn : m + u = ne := by omega
      have her : ∀ (W : World) l, W.heap[g]? = some (.cells (rdC l 0) 72 (0, 0)) → Calls Try.prog 27 #[.pointer (some ⟨g, 0, none⟩)] W fun e w' => e = .returned (.int .i64 0) ∧ Below W.heap.size W w' := fun W l h => err_rd h
      replace hsl := Lib.hid hsl; replace hon := Lib.hid hon; replace hnb := Lib.hid hnb; replace hm1 := Lib.hid hm1; replace hzs := Lib.hid hzs; replace t1 := Lib.hid t1; replace t2 := Lib.hid t2; replace hmn := Lib.hid hmn; replace her := Lib.hid her
      clear hx hdr hx1 hx2
      go_upto_region 7 with (go_at_call 25; (with_reducible refine (t1.out _ (hp.out.box (i := 2) rfl)).mono ?_); rintro e w4 ⟨rfl, rd2, k2⟩; replace hp := Lib.hid (hp.out.call (i := 2) rfl rd2 k2); clear rd2 k2)
      go_upto_region 10 with fail
      have hd := Lib.hid hp.out.drew
      have d1 : w4.drew.cell? ⟨gx, 0, none⟩ = some (.slice ad j cp) := (hd.out.cell (i := 1) rfl 0).trans rfl
      go_region_law (first
        | (go_simp; go_at_call 25; (with_reducible refine (t2.out _ (hd.out.box (i := 2) rfl)).mono ?_); rintro e w3 ⟨rfl, rd3, k3⟩; have hp3 := Lib.hid (hd.out.call (i := 2) rfl rd3 k3); clear rd3 k3; have d3 : w3.cell? ⟨gx, 0, none⟩ = some (.slice ad j cp) := (hp3.out.cell (i := 1) rfl 0).trans rfl; have d4 : (w3.alloc (.cells #[.string xk, .string xv] 43)).cell? ⟨gx, 0, none⟩ = some (.slice ad j cp) := ((hp3.out.alloc_ (.cells #[.string xk, .string xv] 43)).cell (i := 1) rfl 0).trans rfl; dsimp only)
        | (refine step_append_sl_hpk rfl _ _ rfl Try.underlying22 eInfo rfl (by decide) (by decide) (hp3.out.alloc_ (.cells #[.string xk, .string xv] 43)) 0 rfl rfl rfl (hsl.out _) rfl hon.out hnb.out hm1.out hzs.out ?_; intro v5 w9 h5 hv5; obtain ⟨ad5, cp5, rfl⟩ := hv5; have c5 : w9.cell? ⟨gx, 0, none⟩ = some (.slice ad j cp) := (h5.cell (i := 1) rfl 0).trans rfl; have f5 := h5.free (i := 1) rfl 0; replace h5 := Lib.hid h5))
      all_goals replace h5 := Lib.hid (h5.out.put (i := 1) rfl 0 (.slice ad5 m cp5))
      all_goals go_wp2_with (go_at_call 27; (with_reducible refine (her.out _ _ (h5.out.box (i := 2) rfl)).mono ?_); rintro e w7 ⟨rfl, b7⟩; replace h5 := Lib.hid (h5.out.below b7); clear b7)
      all_goals
        go_roundg u
        case rel => exact ⟨m, ad5, cp5, by rw [← hm1.out]; go_num, hmn.out, h5.out⟩
        case measure => omega
end Go.Proofs.Ytcdgnhhciccoeaa.nod
