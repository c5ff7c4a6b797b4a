/- A page of pages below out of its bytes, and what no bytes give (node.Get). No condition but that the page may be. -/
import Derived.Test.YtcdgnhhciccoeaaNodC
namespace Go.Proofs.Ytcdgnhhciccoeaa.nod
open Go.RowKit
open code (numL textL rdC)
attribute [local go_sem ↓] Go.wp_at_zero Go.wp_at_succ
attribute [local go_sem] str_size
set_option linter.unusedVariables false
set_option linter.unusedSimpArgs false
set_option maxRecDepth 100000

theorem bytes_rd (s : ByteArray) (hs : s.size = 32) {w : World} {g : Nat} {r : List UInt8} (h : w.heap[g]? = some (.cells (rdC (s.data.toList ++ r) 0) 72 (0, 0))) :
    Calls Try.prog 23 #[.pointer (some ⟨g, 0, none⟩), .int .i64 32] w fun e w' => e = .returned (.string s) ∧ w'.heap[g]? = some (.cells (rdC r 0) 72 (0, 0)) ∧ Keeps [g] w w' := by
  have hl : s.data.toList.length = 32 := by rw [bl_len, hs]
  have := code.bytes_take (show code.RdAt w g (s.data.toList ++ r) 0 from h) 32 (by rw [List.length_append]; omega)
  rw [List.take_left' hl, List.drop_left' hl, txL_put] at this
  exact this
theorem num_rd (x : Int) (hx : 0 ≤ x ∧ x < 4096) {w : World} {g : Nat} {r : List UInt8} (h : w.heap[g]? = some (.cells (rdC (numL x.toNat ++ r) 0) 72 (0, 0))) :
    Calls Try.prog 24 #[.pointer (some ⟨g, 0, none⟩), .int .u64 4095] w fun e w' => e = .returned (.int .u64 x) ∧ w'.heap[g]? = some (.cells (rdC r 0) 72 (0, 0)) ∧ Keeps [g] w w' := by
  have := code.num_read x.toNat 4095 (by omega) (by decide) (show code.RdAt w g (numL x.toNat ++ r) 0 from h)
  rwa [show ((x.toNat : Nat) : Int) = x by omega] at this
set_option maxHeartbeats 32000000 in
theorem getK_put (K : List Kd) (w : World) (hm : mayN [] K = true) (hlen : (nodB [] K).length ≤ 462) (hK : K.length ≤ 100) :
    Calls Try.prog 9 #[.string (str (nodB [] K))] w fun e w' => ∃ kv, e = .returned (.tuple #[.agg #[.slice none 0 0, kv], .int .i64 0]) ∧ Sl w' kv K.length (kdC K) ∧ Below w.heap.size w w' := by
  have hmay : ∀ W kv, Sl W kv K.length (kdC K) → Calls Try.prog 11 #[.agg #[.slice none 0 0, kv]] W fun e w' => e = .returned (.bool true) ∧ Below W.heap.size W w' := fun W kv h1 => by
    have := may_any (.slice none 0 0) kv [] K W (Sl.nil _) h1 (by decide) (by omega)
    rwa [hm] at this
  have hok : ∀ x ∈ K, x.lo.size ≤ 96 ∧ (0 ≤ x.pl ∧ x.pl < 4096) ∧ x.sm.size = 32 := fun x hx => by
    unfold mayN at hm
    simp only [Bool.and_eq_true, List.all_eq_true] at hm
    have := hm.2 x hx
    unfold kdOk at this
    simp only [Bool.and_eq_true, decide_eq_true_eq] at this
    exact ⟨this.1.1.1, ⟨this.1.1.2, this.1.2⟩, this.2⟩
  have hne0 : K.length ≠ 0 := fun h => by
    unfold mayN at hm
    rw [h] at hm; simp at hm
  have hB : nodB [] K = 73 :: (numL K.length ++ K.flatMap kidB) := by unfold nodB markB; rw [if_neg hne0]; simp
  obtain ⟨s, hs⟩ : ∃ s, s = nodB [] K := ⟨_, rfl⟩
  rw [← hs] at hlen hB ⊢
  obtain ⟨nk, hnk⟩ : ∃ n, n = K.length := ⟨_, rfl⟩
  rw [← hnk] at hB hmay hK hne0 ⊢
  have hlen4 : ¬ (462 : Int) < (s.length : Int) := by omega
  have hrd := fun W => code.read_any (str s) W
  rw [str_toList] at hrd
  have hbt : ∀ (W : World) g, W.heap[g]? = some (.cells (rdC s 0) 72 (0, 0)) → Calls Try.prog 23 #[.pointer (some ⟨g, 0, none⟩), .int .i64 1] W fun e w' => e = .returned (.string ⟨#[73]⟩) ∧ w'.heap[g]? = some (.cells (rdC (numL nk ++ K.flatMap kidB) 0) 72 (0, 0)) ∧ Keeps [g] W w' := fun W g h => by
    have := code.bytes_take (show code.RdAt W g s 0 from h) 1 (by rw [hB]; simp)
    rw [hB] at this
    exact this
  have hnm : ∀ (W : World) g, W.heap[g]? = some (.cells (rdC (numL nk ++ K.flatMap kidB) 0) 72 (0, 0)) → Calls Try.prog 24 #[.pointer (some ⟨g, 0, none⟩), .int .u64 462] W fun e w' => e = .returned (.int .u64 (nk : Int)) ∧ w'.heap[g]? = some (.cells (rdC (K.flatMap kidB) 0) 72 (0, 0)) ∧ Keeps [g] W w' := fun W g h => code.num_read nk 462 (by omega) (by decide) (show code.RdAt W g (numL nk ++ K.flatMap kidB) 0 from h)
  have hend : ∀ (W : World) g, W.heap[g]? = some (.cells (rdC [] 0) 72 (0, 0)) → Calls Try.prog 28 #[.pointer (some ⟨g, 0, none⟩)] W fun e w' => e = .returned (.int .i64 0) ∧ Keeps [g] W w' := fun W g h => code.end_read h
  have hp0 := (Hp.none_ w []).alloc #[.slice none 0 0, .slice none 0 0] 25
  replace hrd := Lib.hid hrd; replace hmay := Lib.hid hmay; replace hok := Lib.hid hok; replace hnk := Lib.hid hnk; replace hbt := Lib.hid hbt; replace hnm := Lib.hid hnm; replace hend := Lib.hid hend; replace hp0 := Lib.hid hp0
  clear hm hlen hB hs hne0
  go_enter Try.func9, Try.ntmps9
  go_upto_region 1 with fail
  generalize w.alloc _ = W at hp0 ⊢
  generalize hq : w.heap.size = q0 at hp0 ⊢
  clear hq
  go_upto_region 2 with (go_at_call 22; (with_reducible refine (hrd.out _).mono ?_); rintro e w1 ⟨rfl, rd1, b1⟩; have hp1 := Lib.hid (hp0.out.made rd1 (Nat.le_refl _) b1); clear rd1 b1)
  generalize W.heap.size = g at hp1 ⊢
  have hp : Hid (Hp w [] [.box g (rdC s 0) 72, .box q0 #[.slice none 0 0, .slice none 0 0] 25] w1) := hp1
  clear hp1 hp0 hrd
  go_upto_region 3 with (go_at_call 23; (with_reducible refine (hbt.out _ _ (hp.out.box (i := 0) rfl)).mono ?_); rintro e w2 ⟨rfl, rd2, k2⟩; replace hp := Lib.hid (hp.out.call (i := 0) rfl rd2 k2); clear rd2 k2)
  have hp2 := Lib.hid (hp.out.alloc #[.slice none 0 0, .slice none 0 0] 25)
  go_upto_region 4 with fail
  generalize w2.alloc _ = W3 at hp2 ⊢
  generalize w2.heap.size = gx at hp2 ⊢
  have hp3 : Hid (Hp w [] [.row 41 3 (.slice none 0 0) 0 [], .box gx #[.slice none 0 0, .slice none 0 0] 25, .box g (rdC (numL nk ++ K.flatMap kidB) 0) 72, .box q0 #[.slice none 0 0, .slice none 0 0] 25] W3) := (hp2.out.rowNil 41 3)
  clear hp hp2 hbt
  have hp := hp3
  clear hp3
  go_upto_region 5 with (go_at_call 24; (with_reducible refine (hnm.out _ _ (hp.out.box (i := 2) rfl)).mono ?_); rintro e w2 ⟨rfl, rd2, k2⟩; replace hp := Lib.hid (hp.out.call (i := 2) rfl rd2 k2); clear rd2 k2)
  clear hnm
  go_loopg [16] nk (fun gj s16 wr => ∃ (j : Nat) (ad : Option Addr) (cp : Nat), s16 = .int .u64 (j : Int) ∧ j + gj = nk ∧ Hp w [] [.row 41 3 (.slice ad j cp) j (kdC (K.take j)), .box gx #[.slice none 0 0, .slice ad j cp] 25, .box g (rdC ((K.drop j).flatMap kidB) 0) 72, .box q0 #[.slice none 0 0, .slice none 0 0] 25] wr)
  case atStart => exact ⟨0, none, 0, rfl, by omega, hp.out⟩
  case round =>
    clear hp
    obtain ⟨j, ad, cp, rfl, hjn, hp⟩ := hrel
    replace hp := Lib.hid hp
    cases gk with
    | zero =>
      obtain rfl : j = nk := by omega
      have e1 : ¬ ((j : Int) < (j : Int)) := by omega
      have hi1 : kdC (K.take j) = kdC K := by rw [List.take_of_length_le (by rw [← hnk.out]; exact Nat.le_refl _)]
      have hi2 : (K.drop j).flatMap kidB = [] := by rw [List.drop_eq_nil_of_le (by rw [← hnk.out]; exact Nat.le_refl _)]; rfl
      rw [hi1, hi2] at hp
      clear hi1 hi2
      go_upto_region 19 with (go_at_call 28; (with_reducible refine (hend.out _ _ (hp.out.box (i := 2) rfl)).mono ?_); rintro e w5 ⟨rfl, k5⟩; have hp5 := Lib.hid (hp.out.lose (i := 2) rfl k5); clear k5)
      have hp6 : Hid (Hp w [] [.row 41 3 (.slice ad j cp) j (kdC K), .box gx #[.slice none 0 0, .slice ad j cp] 25, .box q0 #[.slice none 0 0, .slice none 0 0] 25] w5) := hp5
      clear hp5 hp hend
      have hsl : ∀ W, Hp w [] [.row 41 3 (.slice ad j cp) j (kdC K), .box gx #[.slice none 0 0, .slice ad j cp] 25, .box q0 #[.slice none 0 0, .slice none 0 0] 25] W → Sl W (.slice ad j cp) j (kdC K) ∧ W.cell? ⟨gx, 0, none⟩ = some (.slice none 0 0) ∧ W.cell? ⟨gx, 1, none⟩ = some (.slice ad j cp) := fun W h => ⟨h.sl (i := 0) rfl (by omega), (h.cell (i := 1) rfl 0).trans rfl, (h.cell (i := 1) rfl 1).trans rfl⟩
      replace hsl := Lib.hid hsl
      obtain ⟨-, c0, c1⟩ := hsl.out _ hp6.out
      go_upto_region 21 with (go_at_call 11; (with_reducible refine (hmay.out _ _ (hsl.out _ hp6.out).1).mono ?_); rintro e w6 ⟨rfl, b6⟩; replace hp6 := Lib.hid (hp6.out.below b6); clear b6)
      clear c0 c1
      obtain ⟨-, c0, c1⟩ := hsl.out _ hp6.out
      have y0 := hp6.out.free (i := 2) rfl 0; have y1 := hp6.out.free (i := 2) rfl 1
      have z0 := hp6.out.cell (i := 2) rfl 0; have z1 := hp6.out.cell (i := 2) rfl 1
      simp at z0 z1
      have hpf := Lib.hid ((hp6.out.put (i := 2) rfl 0 (.slice none 0 0)).put (i := 2) rfl 1 (.slice ad j cp))
      clear hp6
      go_wp2
      (try simp only [Exit.inBlock, Exit.then])
      refine bodyPost_ret (get_results _ _ q0 #[.slice none 0 0, .slice ad j cp] _ rfl rfl (hpf.out.box (i := 2) rfl) rfl) rfl ?_
      exact ⟨_, rfl, hpf.out.sl (i := 0) rfl (by omega), hpf.out.bel⟩
    | succ u =>
      have e1 : (j : Int) < (nk : Int) := by omega
      obtain ⟨x, hx⟩ : ∃ x, K[j]? = some x := ⟨_, List.getElem?_eq_getElem (by have := hnk.out; omega)⟩
      obtain ⟨hx1, hx2, hx3⟩ := hok.out x (List.mem_of_getElem? hx)
      have hdr : (K.drop j).flatMap kidB = txL x.lo ++ (numL x.pl.toNat ++ (x.sm.data.toList ++ (K.drop (j + 1)).flatMap kidB)) := by rw [dropC hx]; simp [kidB]
      rw [hdr] at hp
      have hzs : kdC (K.take j) ++ [.string x.lo, .int .i64 x.pl, .string x.sm] = kdC (K.take (j + 1)) := by rw [List.take_add_one, hx, kdC_append]; rfl
      have t1 : ∀ (W : World), W.heap[g]? = some (.cells (rdC (txL x.lo ++ (numL x.pl.toNat ++ (x.sm.data.toList ++ (K.drop (j + 1)).flatMap kidB))) 0) 72 (0, 0)) → Calls Try.prog 25 #[.pointer (some ⟨g, 0, none⟩), .int .i64 96] W fun e w' => e = .returned (.string x.lo) ∧ w'.heap[g]? = some (.cells (rdC (numL x.pl.toNat ++ (x.sm.data.toList ++ (K.drop (j + 1)).flatMap kidB)) 0) 72 (0, 0)) ∧ Keeps [g] W w' := fun W h => text_rd x.lo 96 hx1 (by decide) h
      have t2 : ∀ (W : World), W.heap[g]? = some (.cells (rdC (numL x.pl.toNat ++ (x.sm.data.toList ++ (K.drop (j + 1)).flatMap kidB)) 0) 72 (0, 0)) → Calls Try.prog 24 #[.pointer (some ⟨g, 0, none⟩), .int .u64 4095] W fun e w' => e = .returned (.int .u64 x.pl) ∧ w'.heap[g]? = some (.cells (rdC (x.sm.data.toList ++ (K.drop (j + 1)).flatMap kidB) 0) 72 (0, 0)) ∧ Keeps [g] W w' := fun W h => num_rd x.pl hx2 h
      have t3 : ∀ (W : World), W.heap[g]? = some (.cells (rdC (x.sm.data.toList ++ (K.drop (j + 1)).flatMap kidB) 0) 72 (0, 0)) → Calls Try.prog 23 #[.pointer (some ⟨g, 0, none⟩), .int .i64 32] W fun e w' => e = .returned (.string x.sm) ∧ w'.heap[g]? = some (.cells (rdC ((K.drop (j + 1)).flatMap kidB) 0) 72 (0, 0)) ∧ Keeps [g] W w' := fun W h => bytes_rd x.sm hx3 h
      have wp : IntKind.i64.wrap x.pl = x.pl := IntWalk.i64_in _ (by omega)
      obtain ⟨m, hm1⟩ : ∃ m, j + 1 = m := ⟨_, rfl⟩
      rw [hm1] at hzs t1 t2 t3 hp
      obtain ⟨xl, xp, xs⟩ := x
      simp only at t1 t2 t3 hzs hp wp
      have hsl : ∀ W : World, Sl (W.alloc (.cells #[.string xl, .int .i64 xp, .string xs] 41)) (.slice (some ⟨W.heap.size, 0, none⟩) 1 1) 1 [.string xl, .int .i64 xp, .string xs] := fun W =>
        ⟨_, _, rfl, by omega, Or.inr ⟨_, 0, rfl, by simp, fun j v hj => by
          rw [Nat.zero_add]
          exact (newCell W _ _ j).trans (by simpa using hj)⟩⟩
      have hon : ∀ u ∈ [Value.string xl, .int .i64 xp, .string xs], u.oneCell' = true := fun u hu => by simp at hu; rcases hu with rfl | rfl | rfl <;> rfl
      have hnb : j + 1 ≤ 100000000 := by omega
      have hmn : m + u = nk := by omega
      have her : ∀ (W : World) l, W.heap[g]? = some (.cells (rdC l 0) 72 (0, 0)) → Calls Try.prog 27 #[.pointer (some ⟨g, 0, none⟩)] W fun e w' => e = .returned (.int .i64 0) ∧ Below W.heap.size W w' := fun W l h => err_rd h
      replace hsl := Lib.hid hsl; replace hon := Lib.hid hon; replace hnb := Lib.hid hnb; replace hm1 := Lib.hid hm1; replace hzs := Lib.hid hzs; replace t1 := Lib.hid t1; replace t2 := Lib.hid t2; replace t3 := Lib.hid t3; replace hmn := Lib.hid hmn; replace her := Lib.hid her
      clear hx hdr hx1 hx2 hx3
      go_upto_region 7 with (go_at_call 25; (with_reducible refine (t1.out _ (hp.out.box (i := 2) rfl)).mono ?_); rintro e w4 ⟨rfl, rd2, k2⟩; replace hp := Lib.hid (hp.out.call (i := 2) rfl rd2 k2); clear rd2 k2)
      go_upto_region 13 with (first
        | (go_at_call 24; (with_reducible refine (t2.out _ (hp.out.box (i := 2) rfl)).mono ?_); rintro e w5 ⟨rfl, rd2, k2⟩; replace hp := Lib.hid (hp.out.call (i := 2) rfl rd2 k2); clear rd2 k2)
        | (go_at_call 23; (with_reducible refine (t3.out _ (hp.out.box (i := 2) rfl)).mono ?_); rintro e w6 ⟨rfl, rd2, k2⟩; replace hp := Lib.hid (hp.out.call (i := 2) rfl rd2 k2); clear rd2 k2))
      have hpr := Lib.hid (hp.out.alloc #[.int .i64 xp, .string xs] 39)
      clear hp
      generalize w6.alloc _ = W6 at hpr ⊢
      generalize w6.heap.size = qr at hpr ⊢
      have hp : Hid (Hp w [] [.box qr #[.int .i64 xp, .string xs] 39, .row 41 3 (.slice ad j cp) j (kdC (K.take j)), .box gx #[.slice none 0 0, .slice ad j cp] 25, .box g (rdC ((K.drop m).flatMap kidB) 0) 72, .box q0 #[.slice none 0 0, .slice none 0 0] 25] W6) := hpr
      clear hpr
      have r0 := hp.out.cell (i := 0) rfl 0; have r1 := hp.out.cell (i := 0) rfl 1
      have d1 := hp.out.cell (i := 2) rfl 1
      simp at r0 r1 d1
      have hj2 : j < 100000000 := by omega
      go_upto_region 14 with (at_builtin; (refine wpList_append_hp rfl _ _ rfl Try.underlying23 kInfo rfl (by decide) (by decide) (hp.out.alloc_ (.cells #[.string xl, .int .i64 xp, .string xs] 41)) 1 rfl rfl _ _ [.string xl, .int .i64 xp, .string xs] rfl rfl (block_cells (heap_alloc_new _ _)) hon.out hj2 ?_; intro v5 w5' h5 hv5; rw [hzs.out] at h5; replace h5 := Lib.hid h5; obtain ⟨b5, cp5, rfl⟩ := hv5; have c5 := h5.out.cell (i := 2) rfl 1; have f5 := h5.out.free (i := 2) rfl 1; simp at c5))
      have h6 : Hid (Hp w [] [.box qr #[.int .i64 xp, .string xs] 39, .row 41 3 (.slice (some ⟨b5, 0, none⟩) (j + 1) cp5) (j + 1) (kdC (K.take m)), .box gx #[.slice none 0 0, .slice (some ⟨b5, 0, none⟩) (j + 1) cp5] 25, .box g (rdC ((K.drop m).flatMap kidB) 0) 72, .box q0 #[.slice none 0 0, .slice none 0 0] 25] (w5'.setCell ⟨gx, 1, none⟩ (.slice (some ⟨b5, 0, none⟩) (j + 1) cp5))) := h5.out.put (i := 2) rfl 1 (.slice (some ⟨b5, 0, none⟩) (j + 1) cp5)
      clear h5 c5 f5 r0 r1 d1 hp
      generalize w5'.setCell _ _ = W7 at h6 ⊢
      go_wp2_with (go_at_call 27; (with_reducible refine (her.out _ _ (h6.out.box (i := 3) rfl)).mono ?_); rintro e w7 ⟨rfl, b7⟩; replace h6 := Lib.hid (h6.out.below b7); clear b7)
      go_roundg u
      case rel => exact ⟨m, _, cp5, by rw [← hm1.out]; go_num, hmn.out, by rw [← hm1.out]; have := h6.out.drop 0; rw [← hm1.out] at this; exact this⟩
      case measure => omega
theorem get_results0 : True := trivial
set_option maxHeartbeats 8000000 in
theorem get_none (w : World) : Calls Try.prog 9 #[.string ⟨#[]⟩] w fun e w' => e = .returned (.tuple #[.agg #[.slice none 0 0, .slice none 0 0], .int .i64 2]) ∧ Below w.heap.size w w' := by
  have hrd : ∀ W, Calls Try.prog 22 #[.string ⟨#[]⟩] W fun e w' => e = .returned (.pointer (some ⟨W.heap.size, 0, none⟩)) ∧ code.RdAt w' W.heap.size [] 0 ∧ Below W.heap.size W w' := fun W => code.read_any _ W
  have hbt : ∀ (W : World) g, W.heap[g]? = some (.cells (rdC [] 0) 72 (0, 0)) → Calls Try.prog 23 #[.pointer (some ⟨g, 0, none⟩), .int .i64 1] W fun e w' => e = .returned (.string ⟨#[]⟩) ∧ w'.heap[g]? = some (.cells (rdC [] 2) 72 (0, 0)) ∧ Keeps [g] W w' := fun W g h => code.bytes_short (show code.RdAt W g [] 0 from h) 1 (Or.inr (by simp))
  have hnm : ∀ (W : World) g, W.heap[g]? = some (.cells (rdC [] 2) 72 (0, 0)) → Calls Try.prog 24 #[.pointer (some ⟨g, 0, none⟩), .int .u64 462] W fun e w' => e = .returned (.int .u64 0) ∧ w'.heap[g]? = some (.cells (rdC [] 2) 72 (0, 0)) ∧ Keeps [g] W w' := fun W g h => by
    have := code.num_step 462 (by decide) (show code.RdAt W g [] 2 from h)
    have e : code.numE 462 [] 2 = (0, [], 2) := by unfold code.numE; rw [if_neg (by decide)]
    rw [e] at this
    exact this
  have hend : ∀ (W : World) g, W.heap[g]? = some (.cells (rdC [] 2) 72 (0, 0)) → Calls Try.prog 28 #[.pointer (some ⟨g, 0, none⟩)] W fun e w' => e = .returned (.int .i64 2) ∧ Keeps [g] W w' := fun W g h => by
    have := code.end_step (show code.RdAt W g [] 2 from h)
    have e : code.endE [] 2 = 2 := by decide
    rw [e] at this
    exact this
  have hp0 := (Hp.none_ w []).alloc #[.slice none 0 0, .slice none 0 0] 25
  replace hrd := Lib.hid hrd; replace hbt := Lib.hid hbt; replace hnm := Lib.hid hnm; replace hend := Lib.hid hend; replace hp0 := Lib.hid hp0
  go_enter Try.func9, Try.ntmps9
  go_upto_region 1 with fail
  generalize w.alloc _ = W at hp0 ⊢
  generalize hq : w.heap.size = q0 at hp0 ⊢
  clear hq
  go_upto_region 2 with (go_at_call 22; (with_reducible refine (hrd.out _).mono ?_); rintro e w1 ⟨rfl, rd1, b1⟩; have hp1 := Lib.hid (hp0.out.made rd1 (Nat.le_refl _) b1); clear rd1 b1)
  generalize W.heap.size = g at hp1 ⊢
  have hp : Hid (Hp w [] [.box g (rdC [] 0) 72, .box q0 #[.slice none 0 0, .slice none 0 0] 25] w1) := hp1
  clear hp1 hp0 hrd
  go_upto_region 3 with (go_at_call 23; (with_reducible refine (hbt.out _ _ (hp.out.box (i := 0) rfl)).mono ?_); rintro e w2 ⟨rfl, rd2, k2⟩; replace hp := Lib.hid (hp.out.call (i := 0) rfl rd2 k2); clear rd2 k2)
  have hp2 := Lib.hid (hp.out.alloc #[.slice none 0 0, .slice none 0 0] 25)
  go_upto_region 4 with fail
  generalize w2.alloc _ = W3 at hp2 ⊢
  generalize w2.heap.size = gx at hp2 ⊢
  have hp3 : Hid (Hp w [] [.box gx #[.slice none 0 0, .slice none 0 0] 25, .box g (rdC [] 2) 72, .box q0 #[.slice none 0 0, .slice none 0 0] 25] W3) := hp2
  clear hp hp2 hbt
  have hp := hp3
  clear hp3
  go_upto_region 5 with (go_at_call 24; (with_reducible refine (hnm.out _ _ (hp.out.box (i := 1) rfl)).mono ?_); rintro e w2 ⟨rfl, rd2, k2⟩; replace hp := Lib.hid (hp.out.call (i := 1) rfl rd2 k2); clear rd2 k2)
  clear hnm
  go_loopg [16] 0 (fun gj s16 wr => s16 = .int .u64 0 ∧ Hp w [] [.box gx #[.slice none 0 0, .slice none 0 0] 25, .box g (rdC [] 2) 72, .box q0 #[.slice none 0 0, .slice none 0 0] 25] wr)
  case atStart => exact ⟨rfl, hp.out⟩
  case round =>
    clear hp
    obtain ⟨rfl, hp⟩ := hrel
    replace hp := Lib.hid hp
    go_upto_region 18 with (go_at_call 28; (with_reducible refine (hend.out _ _ (hp.out.box (i := 1) rfl)).mono ?_); rintro e w5 ⟨rfl, k5⟩; have hp5 := Lib.hid (hp.out.lose (i := 1) rfl k5); clear k5)
    have hp6 : Hid (Hp w [] [.box gx #[.slice none 0 0, .slice none 0 0] 25, .box q0 #[.slice none 0 0, .slice none 0 0] 25] w5) := hp5
    clear hp5 hp hend
    have y0 := hp6.out.free (i := 1) rfl 0; have y1 := hp6.out.free (i := 1) rfl 1
    have z0 := hp6.out.cell (i := 1) rfl 0; have z1 := hp6.out.cell (i := 1) rfl 1
    simp at z0 z1
    have hpf := Lib.hid ((hp6.out.put (i := 1) rfl 0 (.slice none 0 0)).put (i := 1) rfl 1 (.slice none 0 0))
    clear hp6
    go_wp2
    (try simp only [Exit.inBlock, Exit.then])
    refine bodyPost_ret (get_results _ _ q0 #[.slice none 0 0, .slice none 0 0] _ rfl rfl (hpf.out.box (i := 1) rfl) rfl) rfl ?_
    exact ⟨rfl, hpf.out.bel⟩
end Go.Proofs.Ytcdgnhhciccoeaa.nod
