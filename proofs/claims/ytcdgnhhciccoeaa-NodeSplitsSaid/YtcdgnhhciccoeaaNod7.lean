/- A page that is too great is cut into two (node.Split): the first place at which the greater of both is least. No condition but that there are few entries and pages, none of them too long. -/
import Derived.Test.YtcdgnhhciccoeaaNod4
import Derived.Deep.CutBlock
namespace Go.Proofs.Ytcdgnhhciccoeaa.nod
open Go.RowKit
attribute [local go_sem ↓] Go.wp_at_zero Go.wp_at_succ
set_option linter.unusedVariables false
set_option linter.unusedSimpArgs false
set_option maxRecDepth 100000

def ptE (E : List En) (f t : Nat) : List En := (E.take (min t E.length)).drop (min f E.length)
def ptK (E : List En) (K : List Kd) (f t : Nat) : List Kd := (K.take (t - E.length)).drop (f - E.length)
theorem ptE_len (E : List En) (f t : Nat) : (ptE E f t).length = min t E.length - min f E.length := by simp [ptE]
theorem ptK_len (E : List En) (K : List Kd) (f t : Nat) (ht : t ≤ E.length + K.length) : (ptK E K f t).length = (t - E.length) - (f - E.length) := by simp [ptK]; omega
theorem ptE_sm {E : List En} (h : SmE E) (f t : Nat) : SmE (ptE E f t) := ⟨by rw [ptE_len]; have := h.1; omega, fun e he => h.2 e (List.mem_of_mem_take (List.mem_of_mem_drop he))⟩
theorem ptK_sm {E : List En} {K : List Kd} (h : SmK K) (f t : Nat) : SmK (ptK E K f t) := by
  have h1 : (ptK E K f t).length ≤ K.length := by simp [ptK]; omega
  have h2 := h.1
  exact ⟨by omega, fun e he => h.2 e (List.mem_of_mem_take (List.mem_of_mem_drop he))⟩
theorem ptE_all (E : List En) (K : List Kd) : ptE E 0 (E.length + K.length) = E := by simp [ptE]
theorem ptK_all (E : List En) (K : List Kd) : ptK E K 0 (E.length + K.length) = K := by simp [ptK]
/-- how many bytes the greater half has -/
def grt (E : List En) (K : List Kd) (at_ : Nat) : Nat := max (nodB (ptE E 0 at_) (ptK E K 0 at_)).length (nodB (ptE E at_ (E.length + K.length)) (ptK E K at_ (E.length + K.length))).length
theorem part_c (ev kv : Value) (E : List En) (K : List Kd) (f t : Nat) (w : World) (he : Sc w ev E.length (enC E)) (hk : Sc w kv K.length (kdC K)) (hE : SmE E) (hK : SmK K) (hft : f ≤ t) (ht : t ≤ E.length + K.length) :
    Calls Try.prog 31 #[.agg #[ev, kv], .int .i64 f, .int .i64 t] w fun e w' => ∃ ev' kv', e = .returned (.agg #[ev', kv']) ∧ Sl w' ev' (ptE E f t).length (enC (ptE E f t)) ∧ Sl w' kv' (ptK E K f t).length (kdC (ptK E K f t)) ∧ Below w.heap.size w w' := by
  have := part_any ev kv E K f t w he hk (by have := hE.1; omega) (by have := hK.1; omega) hft ht
  rw [ptE_len, ptK_len E K f t ht]
  exact this
theorem size_c (ev kv : Value) (E : List En) (K : List Kd) (w : World) (he : Sl w ev E.length (enC E)) (hk : Sl w kv K.length (kdC K)) (hE : SmE E) (hK : SmK K) :
    Calls Try.prog 12 #[.agg #[ev, kv]] w fun e w' => e = .returned (.int .i64 (nodB E K).length) ∧ Below w.heap.size w w' := size_any ev kv E K w he hk hE hK
set_option maxHeartbeats 8000000 in
theorem split_small (ev kv : Value) (E : List En) (K : List Kd) (w : World) (he : Sc w ev E.length (enC E)) (hk : Sc w kv K.length (kdC K)) (hE : SmE E) (hK : SmK K) (hs : (nodB E K).length ≤ 462) :
    Calls Try.prog 15 #[nodV ev kv] w fun e w' => ∃ g c e1 k1, e = .returned (.slice (some ⟨g, 0, none⟩) 1 c) ∧ RowAt w' g 0 [e1, k1] ∧ Sl w' e1 E.length (enC E) ∧ Sl w' k1 K.length (kdC K) ∧ Below w.heap.size w w' := by
  have hp0 := (Hp.none_ w []).alloc #[ev, kv] 25
  have k1 : ∀ W', Below w.heap.size w W' → Calls Try.prog 31 #[.agg #[ev, kv], .int .i64 0, .int .i64 ((E.length + K.length : Nat) : Int)] W' fun e w' => ∃ ev' kv', e = .returned (.agg #[ev', kv']) ∧ Sl w' ev' E.length (enC E) ∧ Sl w' kv' K.length (kdC K) ∧ Below W'.heap.size W' w' := fun W' hb => by
    have := part_c ev kv E K 0 (E.length + K.length) W' (he.below hb) (hk.below hb) hE hK (by omega) (by omega)
    rw [ptE_all, ptK_all] at this; exact this
  have k2 : ∀ W', Below w.heap.size w W' → Calls Try.prog 12 #[.agg #[ev, kv]] W' fun e w' => e = .returned (.int .i64 (nodB E K).length) ∧ Below W'.heap.size W' w' := fun W' hb => size_c ev kv E K W' (he.1.below hb) (hk.1.below hb) hE hK
  have hs1 : ((nodB E K).length : Int) ≤ 462 := by omega
  obtain ⟨-, a, ac, rfl, -, -⟩ := he
  obtain ⟨-, b, bc, rfl, -, -⟩ := hk
  have hEl := hE.1
  have hKl := hK.1
  clear hE hK hs
  generalize (nodB E K).length = sz at hs1 k2
  have wn : wrap64 ((E.length : Int) + (K.length : Int)) = (E.length : Int) + (K.length : Int) := by unfold wrap64; omega
  rw [show ((E.length + K.length : Nat) : Int) = (E.length : Int) + (K.length : Int) by omega] at k1
  replace k1 := Lib.hid k1; replace k2 := Lib.hid k2; replace hp0 := Lib.hid hp0
  generalize enC E = yE at k1 ⊢
  generalize kdC K = yK at k1 ⊢
  generalize E.length = ne at *
  generalize K.length = nk at *
  unfold nodV
  go_enter Try.func15, Try.ntmps15
  go_upto_region 1 with fail
  generalize w.alloc _ = W at hp0 ⊢
  generalize hq2 : w.heap.size = q2 at hp0 ⊢
  clear hq2
  have c0 := hp0.out.cell (i := 0) rfl 0; have c1 := hp0.out.cell (i := 0) rfl 1
  simp at c0 c1
  have hp := hp0
  clear hp0
  go_upto_region 3 with (go_at_call 12; (with_reducible refine (k2.out _ hp.out.bel).mono ?_); rintro e w1 ⟨rfl, b1⟩; replace hp := Lib.hid (hp.out.below b1); clear b1)
  clear c0 c1
  have c0 := hp.out.cell (i := 0) rfl 0; have c1 := hp.out.cell (i := 0) rfl 1
  simp at c0 c1
  go_wp2_with (first
    | (go_at_call 31; (with_reducible refine (k1.out _ hp.out.bel).mono ?_); rintro e w2 ⟨e1, k1', rfl, s1, s2, b2⟩; replace hp := Lib.hid (hp.out.below b2); clear b2; obtain ⟨x1, y1, rfl, hm1, hz1⟩ := s1; obtain ⟨x2, y2, rfl, hm2, hz2⟩ := s2; replace hz1 := Lib.hid hz1; replace hz2 := Lib.hid hz2; replace hm1 := Lib.hid hm1; replace hm2 := Lib.hid hm2))
  go_ret
  have hpf := hp.out.alloc #[.slice x1 ne y1, .slice x2 nk y2] 25
  refine ⟨_, _, .slice x1 ne y1, .slice x2 nk y2, rfl, ⟨hpf.lt (i := 0) rfl, fun j v hj => ?_⟩, ?_, ?_, hpf.bel⟩
  · rw [Nat.zero_add, hpf.cell (i := 0) rfl j]; simpa using hj
  · exact Sl.below ⟨_, _, rfl, hm1.out, hz1.out⟩ ((Below.refl _ _).alloc (Nat.le_refl _) _)
  · exact Sl.below ⟨_, _, rfl, hm2.out, hz2.out⟩ ((Below.refl _ _).alloc (Nat.le_refl _) _)
/-- where it is cut -/
def Best (E : List En) (K : List Kd) (b n : Nat) : Prop := 1 ≤ b ∧ b < n ∧ ∀ x, 1 ≤ x → x < n → grt E K b ≤ grt E K x ∧ (x < b → grt E K b < grt E K x)
def Two (w w' : World) (E : List En) (K : List Kd) (n : Nat) (e : Ending) : Prop := ∃ g c e1 k1 e2 k2 b, e = .returned (.slice (some ⟨g, 0, none⟩) 2 c) ∧ RowAt w' g 0 [e1, k1, e2, k2] ∧ Best E K b n ∧
      Sl w' e1 (ptE E 0 b).length (enC (ptE E 0 b)) ∧ Sl w' k1 (ptK E K 0 b).length (kdC (ptK E K 0 b)) ∧ Sl w' e2 (ptE E b n).length (enC (ptE E b n)) ∧ Sl w' k2 (ptK E K b n).length (kdC (ptK E K b n)) ∧ Below w.heap.size w w'
set_option maxHeartbeats 16000000 in
theorem split_big (ev kv : Value) (E : List En) (K : List Kd) (w : World) (he : Sc w ev E.length (enC E)) (hk : Sc w kv K.length (kdC K)) (hE : SmE E) (hK : SmK K) (hs : 462 < (nodB E K).length) (h2 : 2 ≤ E.length + K.length) :
    Calls Try.prog 15 #[nodV ev kv] w fun e w' => Two w w' E K (E.length + K.length) e := by
  have hp0 := (Hp.none_ w []).alloc #[ev, kv] 25
  obtain ⟨n, hn⟩ : ∃ n, n = E.length + K.length := ⟨_, rfl⟩
  rw [← hn] at h2 ⊢
  have k1 : ∀ W', Below w.heap.size w W' → ∀ (f t : Nat), f ≤ t → t ≤ n → Calls Try.prog 31 #[.agg #[ev, kv], .int .i64 f, .int .i64 t] W' fun e w' => ∃ ev' kv', e = .returned (.agg #[ev', kv']) ∧ Sl w' ev' (ptE E f t).length (enC (ptE E f t)) ∧ Sl w' kv' (ptK E K f t).length (kdC (ptK E K f t)) ∧ Below W'.heap.size W' w' := fun W' hb f t h1 h2 =>
    part_c ev kv E K f t W' (he.below hb) (hk.below hb) hE hK h1 (by omega)
  have k2 : ∀ W', Below w.heap.size w W' → Calls Try.prog 12 #[.agg #[ev, kv]] W' fun e w' => e = .returned (.int .i64 (nodB E K).length) ∧ Below W'.heap.size W' w' := fun W' hb => size_c ev kv E K W' (he.1.below hb) (hk.1.below hb) hE hK
  have k3 : ∀ W' f t e1 k1, Sl W' e1 (ptE E f t).length (enC (ptE E f t)) → Sl W' k1 (ptK E K f t).length (kdC (ptK E K f t)) → Calls Try.prog 12 #[.agg #[e1, k1]] W' fun e w' => e = .returned (.int .i64 (nodB (ptE E f t) (ptK E K f t)).length) ∧ Below W'.heap.size W' w' := fun W' f t e1 k1 h1 h2 => size_c e1 k1 _ _ W' h1 h2 (ptE_sm hE f t) (ptK_sm hK f t)
  have hgr : ∀ x, (grt E K x) = max (nodB (ptE E 0 x) (ptK E K 0 x)).length (nodB (ptE E x n) (ptK E K x n)).length := fun x => by unfold grt; rw [hn]
  have hs1 : ¬ ((nodB E K).length : Int) ≤ 462 := by omega
  have hn2 : ¬ (n : Int) < 2 := by omega
  obtain ⟨-, a, ac, rfl, -, -⟩ := he
  obtain ⟨-, b, bc, rfl, -, -⟩ := hk
  have hEl := hE.1
  have hKl := hK.1
  have hnb : n ≤ 200 := by omega
  clear hE hK hs
  generalize (nodB E K).length = sz at hs1 k2
  obtain ⟨ne, hne⟩ : ∃ n, n = E.length := ⟨_, rfl⟩
  obtain ⟨nk, hnk⟩ : ∃ n, n = K.length := ⟨_, rfl⟩
  rw [← hne] at hn k1 k2 hp0 hEl ⊢
  rw [← hnk] at hn k1 k2 hp0 hKl ⊢
  have wn2 : (ne : Int) + (nk : Int) = (n : Int) := by omega
  have wn : wrap64 ((ne : Int) + (nk : Int)) = (n : Int) := by unfold wrap64; omega
  replace k1 := Lib.hid k1; replace k2 := Lib.hid k2; replace k3 := Lib.hid k3; replace hp0 := Lib.hid hp0; replace hgr := Lib.hid hgr; replace hn := Lib.hid hn; replace hne := Lib.hid hne; replace hnk := Lib.hid hnk
  unfold nodV
  go_enter Try.func15, Try.ntmps15
  go_upto_region 1 with fail
  generalize w.alloc _ = W at hp0 ⊢
  generalize hq2 : w.heap.size = q2 at hp0 ⊢
  clear hq2
  have hcs : ∀ (W' : World), Hp w [] [.box q2 #[.slice a ne ac, .slice b nk bc] 25] W' → W'.cell? ⟨q2, 0, none⟩ = some (.slice a ne ac) ∧ W'.cell? ⟨q2, 1, none⟩ = some (.slice b nk bc) := fun W' h => ⟨(h.cell (i := 0) rfl 0).trans rfl, (h.cell (i := 0) rfl 1).trans rfl⟩
  replace hcs := Lib.hid hcs
  obtain ⟨c0, c1⟩ := hcs.out _ hp0.out
  have hp := hp0
  clear hp0
  go_upto_region 4 with (go_at_call 12; (with_reducible refine (k2.out _ hp.out.bel).mono ?_); rintro e w1 ⟨rfl, b1⟩; replace hp := Lib.hid (hp.out.below b1); clear b1)
  clear c0 c1
  go_upto_region 6 with fail
  go_loopg [4, 5, 6] (n - 1) (fun gm s4 s5 s6 wr => ∃ (i bst : Nat) (lst : Int), s4 = .int .i64 (bst : Int) ∧ s5 = .int .i64 lst ∧ s6 = .int .i64 (i : Int) ∧ i + gm = n ∧ Hp w [] [.box q2 #[.slice a ne ac, .slice b nk bc] 25] wr ∧ ((i = 1 ∧ lst = -1) ∨ (2 ≤ i ∧ lst = (grt E K bst : Int) ∧ Best E K bst i)))
  case atStart => exact ⟨1, 1, -1, rfl, rfl, rfl, by omega, hp.out, Or.inl ⟨rfl, rfl⟩⟩
  case round =>
    clear hp
    obtain ⟨i, bst, lst, rfl, rfl, rfl, hin, hp, hst⟩ := hrel
    replace hp := Lib.hid hp
    have hi1 : 1 ≤ i := by rcases hst with h | h <;> omega
    cases gk with
    | succ u =>
      have e1 : (i : Int) < (n : Int) := by omega
      obtain ⟨g1, hg1⟩ : ∃ g, (nodB (ptE E 0 i) (ptK E K 0 i)).length = g := ⟨_, rfl⟩
      obtain ⟨g2, hg2⟩ : ∃ g, (nodB (ptE E i n) (ptK E K i n)).length = g := ⟨_, rfl⟩
      obtain ⟨g, hg⟩ : ∃ g, grt E K i = g := ⟨_, rfl⟩
      have hg3 : g = max g1 g2 := by rw [← hg, hgr.out, hg1, hg2]
      have mg : max (g1 : Int) (g2 : Int) = (g : Int) := by omega
      have p1 : ∀ W', Below w.heap.size w W' → Calls Try.prog 31 #[.agg #[.slice a ne ac, .slice b nk bc], .int .i64 0, .int .i64 (i : Int)] W' fun e w' => ∃ ev' kv', e = .returned (.agg #[ev', kv']) ∧ Sl w' ev' (ptE E 0 i).length (enC (ptE E 0 i)) ∧ Sl w' kv' (ptK E K 0 i).length (kdC (ptK E K 0 i)) ∧ Below W'.heap.size W' w' := fun W' hb => k1.out W' hb 0 i (by omega) (by omega)
      have p2 : ∀ W', Below w.heap.size w W' → _ := fun W' hb => k1.out W' hb i n (by omega) (by omega)
      replace p1 := Lib.hid p1; replace p2 := Lib.hid p2; replace hg1 := Lib.hid hg1; replace hg2 := Lib.hid hg2; replace hg := Lib.hid hg; replace hg3 := Lib.hid hg3; replace hst := Lib.hid hst
      obtain ⟨c0, c1⟩ := hcs.out _ hp.out
      go_upto_region 8 with fail
      clear c0 c1
      have hp2 := Lib.hid hp.out.drew
      clear hp
      have hp := hp2
      clear hp2
      refine wp_region_noPanic ?_; refine wp_region_held_drew (S := (fun W' => W'.cell? ⟨q2, 0, none⟩ = some (.slice a ne ac) ∧ W'.cell? ⟨q2, 1, none⟩ = some (.slice b nk bc))) (by kernel_rfl) ?_ (fun hHeld => ?_); (focus ((try dsimp only); exact hcs.out _ hp.out; done)); (refine take_t (i := 0) (d := 31) (oi := _) (v := ?_) rfl rfl (by kernel_rfl) (by kernel_rfl) (by kernel_rfl) (by rfl) ?_ (by assumption) ?_; rotate_left; (focus (intro w0 hSw; (try dsimp only at hSw); go_simp; (try with_reducible rfl); done)); ((try simp only [Act.put, List.setIfInBounds_toArray]); (try dsimp only [List.set_cons_zero, List.set_cons_succ]))); (refine take_t (i := 1) (d := 32) (oi := _) (v := ?_) rfl rfl (by kernel_rfl) (by kernel_rfl) (by kernel_rfl) (by rfl) ?_ (by assumption) ?_; rotate_left; (focus (intro w0 hSw; (try dsimp only at hSw); go_simp; (try with_reducible rfl); done)); ((try simp only [Act.put, List.setIfInBounds_toArray]); (try dsimp only [List.set_cons_zero, List.set_cons_succ]))); (refine take_t (i := 4) (d := 35) (oi := _) (v := ?_) rfl rfl (by kernel_rfl) (by kernel_rfl) (by kernel_rfl) (by rfl) ?_ (by assumption) ?_; rotate_left; (focus (intro w0 hSw; (try dsimp only at hSw); go_simp; (try with_reducible rfl); done)); ((try simp only [Act.put, List.setIfInBounds_toArray]); (try dsimp only [List.set_cons_zero, List.set_cons_succ]))); (refine take_t (i := 5) (d := 36) (oi := _) (v := ?_) rfl rfl (by kernel_rfl) (by kernel_rfl) (by kernel_rfl) (by rfl) ?_ (by assumption) ?_; rotate_left; (focus (intro w0 hSw; (try dsimp only at hSw); go_simp; (try with_reducible rfl); done)); ((try simp only [Act.put, List.setIfInBounds_toArray]); (try dsimp only [List.set_cons_zero, List.set_cons_succ]))); (refine take_t (i := 6) (d := 37) (oi := _) (v := ?_) rfl rfl (by kernel_rfl) (by kernel_rfl) (by kernel_rfl) (by rfl) ?_ (by assumption) ?_; rotate_left; (focus (intro w0 hSw; (try dsimp only at hSw); go_simp; (try with_reducible rfl); done)); ((try simp only [Act.put, List.setIfInBounds_toArray]); (try dsimp only [List.set_cons_zero, List.set_cons_succ]))); (refine wpAnyH_ready (rs := [2]) (by kernel_rfl) (by simp) ?_; refine AllReadyH.cons (o := _) rfl (fun K' hK => ?_) AllReadyH.nil; go_simp; (go_at_call 31; (with_reducible refine (p1.out _ hp.out.bel).mono ?_); rintro e w2 ⟨e1, k1', rfl, s1, s2, b2⟩; replace hp := Lib.hid (hp.out.below b2); clear b2; have hsz := k3.out _ _ _ _ _ s1 s2; rw [hg1.out] at hsz; clear s1 s2; replace hsz := Lib.hid hsz); (try dsimp only); refine hK.out _ _ ?_ (fun hHeld2 => ?_); (focus ((try dsimp only); exact hcs.out _ hp.out; done)); clear hK K'; clear hHeld; have hHeld := hHeld2; clear hHeld2; ((try simp only [Act.put, List.setIfInBounds_toArray]); (try dsimp only [List.set_cons_zero, List.set_cons_succ]))); (refine wpAnyH_ready (rs := [3]) (by kernel_rfl) (by simp) ?_; refine AllReadyH.cons (o := _) rfl (fun K' hK => ?_) AllReadyH.nil; go_simp; (go_at_call 12; (with_reducible refine hsz.out.mono ?_); rintro e w2 ⟨rfl, b2⟩; replace hp := Lib.hid (hp.out.below b2); clear b2 hsz); (try dsimp only); refine hK.out _ _ ?_ (fun hHeld2 => ?_); (focus ((try dsimp only); exact hcs.out _ hp.out; done)); clear hK K'; clear hHeld; have hHeld := hHeld2; clear hHeld2; ((try simp only [Act.put, List.setIfInBounds_toArray]); (try dsimp only [List.set_cons_zero, List.set_cons_succ]))); (refine wpAnyH_ready (rs := [7]) (by kernel_rfl) (by simp) ?_; refine AllReadyH.cons (o := _) rfl (fun K' hK => ?_) AllReadyH.nil; go_simp; (go_at_call 31; (with_reducible refine (p2.out _ hp.out.bel).mono ?_); rintro e w2 ⟨e2, k2', rfl, s1, s2, b2⟩; replace hp := Lib.hid (hp.out.below b2); clear b2; have hsz := k3.out _ _ _ _ _ s1 s2; rw [hg2.out] at hsz; clear s1 s2; replace hsz := Lib.hid hsz); (try dsimp only); refine hK.out _ _ ?_ (fun hHeld2 => ?_); (focus ((try dsimp only); exact hcs.out _ hp.out; done)); clear hK K'; clear hHeld; have hHeld := hHeld2; clear hHeld2; ((try simp only [Act.put, List.setIfInBounds_toArray]); (try dsimp only [List.set_cons_zero, List.set_cons_succ]))); (refine wpAnyH_ready (rs := [8]) (by kernel_rfl) (by simp) ?_; refine AllReadyH.cons (o := _) rfl (fun K' hK => ?_) AllReadyH.nil; go_simp; (go_at_call 12; (with_reducible refine hsz.out.mono ?_); rintro e w2 ⟨rfl, b2⟩; replace hp := Lib.hid (hp.out.below b2); clear b2 hsz); (try dsimp only); refine hK.out _ _ ?_ (fun hHeld2 => ?_); (focus ((try dsimp only); exact hcs.out _ hp.out; done)); clear hK K'; clear hHeld; have hHeld := hHeld2; clear hHeld2; ((try simp only [Act.put, List.setIfInBounds_toArray]); (try dsimp only [List.set_cons_zero, List.set_cons_succ]))); (refine take_t (i := 9) (d := 40) (oi := _) (v := ?_) rfl rfl (by kernel_rfl) (by kernel_rfl) (by kernel_rfl) (by rfl) ?_ (by assumption) ?_; rotate_left; (focus (intro w0 hSw; (try dsimp only at hSw); go_simp; (try with_reducible rfl); done)); ((try simp only [Act.put, List.setIfInBounds_toArray]); (try dsimp only [List.set_cons_zero, List.set_cons_succ]))); (refine take_t (i := 10) (d := 7) (oi := _) (v := ?_) rfl rfl (by kernel_rfl) (by kernel_rfl) (by kernel_rfl) (by rfl) ?_ (by assumption) ?_; rotate_left; (focus (intro w0 hSw; (try dsimp only at hSw); go_simp; (try with_reducible rfl); done)); ((try simp only [Act.put, List.setIfInBounds_toArray]); (try dsimp only [List.set_cons_zero, List.set_cons_succ]))); refine wpAnyH_done (by kernel_rfl) ?_ _; refine NoPanic.normal ?_
      rcases hst.out with ⟨hi, hl⟩ | ⟨hi, hl, hb⟩
      · have l1 : lst < 0 := by omega
        have hB : Best E K i (i + 1) := ⟨hi1, by omega, fun x hx1 hx2 => by
          obtain rfl : x = i := by omega
          exact ⟨Nat.le_refl _, fun h => absurd h (by omega)⟩⟩
        replace hB := Lib.hid hB
        clear hi hl
        go_wp2
        go_roundg u
        case rel => exact ⟨i + 1, i, (g : Int), rfl, rfl, by go_num, by omega, hp.out, Or.inr ⟨by omega, by rw [hg.out], hB.out⟩⟩
        case measure => omega
      · have l1 : ¬ lst < 0 := by omega
        by_cases hlt : (g : Int) < lst
        · have hB : Best E K i (i + 1) := ⟨hi1, by omega, fun x hx1 hx2 => by
            by_cases hx : x = i
            · subst hx; exact ⟨Nat.le_refl _, fun h => absurd h (by omega)⟩
            · have := (hb.2.2 x hx1 (by omega)).1
              have := hg.out
              omega⟩
          replace hB := Lib.hid hB
          clear hi hl hb
          go_wp2
          go_roundg u
          case rel => exact ⟨i + 1, i, (g : Int), rfl, rfl, by go_num, by omega, hp.out, Or.inr ⟨by omega, by rw [hg.out], hB.out⟩⟩
          case measure => omega
        · have hB : Best E K bst (i + 1) := ⟨hb.1, by have := hb.2.1; omega, fun x hx1 hx2 => by
            by_cases hx : x = i
            · subst hx
              have := hg.out
              have := hb.2.1
              omega
            · exact hb.2.2 x hx1 (by omega)⟩
          replace hB := Lib.hid hB; replace hl := Lib.hid hl
          clear hi hb
          go_wp2
          go_roundg u
          case rel => exact ⟨i + 1, bst, lst, rfl, rfl, by go_num, by omega, hp.out, Or.inr ⟨by omega, hl.out, hB.out⟩⟩
          case measure => omega
    | zero =>
      obtain rfl : i = n := by omega
      have e1 : ¬ ((i : Int) < (i : Int)) := by omega
      obtain ⟨hi, hl, hB⟩ := hst.resolve_left (by omega)
      have hbb : 1 ≤ bst ∧ bst < i := ⟨hB.1, hB.2.1⟩
      have p1 : ∀ W', Below w.heap.size w W' → Calls Try.prog 31 #[.agg #[.slice a ne ac, .slice b nk bc], .int .i64 0, .int .i64 (bst : Int)] W' fun e w' => ∃ ev' kv', e = .returned (.agg #[ev', kv']) ∧ Sl w' ev' (ptE E 0 bst).length (enC (ptE E 0 bst)) ∧ Sl w' kv' (ptK E K 0 bst).length (kdC (ptK E K 0 bst)) ∧ Below W'.heap.size W' w' := fun W' hb => k1.out W' hb 0 bst (by omega) (by omega)
      have p2 : ∀ W', Below w.heap.size w W' → _ := fun W' hb => k1.out W' hb bst i (by omega) (by omega)
      replace p1 := Lib.hid p1; replace p2 := Lib.hid p2; replace hB := Lib.hid hB
      clear hst hl hbb hi
      obtain ⟨c0, c1⟩ := hcs.out _ hp.out
      go_upto_region 11 with fail
      clear c0 c1
      have hp2 := Lib.hid hp.out.drew
      clear hp
      have hp := hp2
      clear hp2
      refine wp_region_noPanic ?_; refine wp_region_held_drew (S := (fun W' => W'.cell? ⟨q2, 0, none⟩ = some (.slice a ne ac) ∧ W'.cell? ⟨q2, 1, none⟩ = some (.slice b nk bc))) (by kernel_rfl) ?_ (fun hHeld => ?_); (focus ((try dsimp only); first | exact hcs.out _ hp.out | exact hcs.out _ (hp.out.drop 0); done)); (refine take_t (i := 0) (d := 50) (oi := _) (v := ?_) rfl rfl (by kernel_rfl) (by kernel_rfl) (by kernel_rfl) (by rfl) ?_ (by assumption) ?_; rotate_left; (focus (intro w0 hSw; (try dsimp only at hSw); go_simp; (try with_reducible rfl); done)); ((try simp only [Act.put, List.setIfInBounds_toArray]); (try dsimp only [List.set_cons_zero, List.set_cons_succ]))); (refine take_t (i := 1) (d := 51) (oi := _) (v := ?_) rfl rfl (by kernel_rfl) (by kernel_rfl) (by kernel_rfl) (by rfl) ?_ (by assumption) ?_; rotate_left; (focus (intro w0 hSw; (try dsimp only at hSw); go_simp; (try with_reducible rfl); done)); ((try simp only [Act.put, List.setIfInBounds_toArray]); (try dsimp only [List.set_cons_zero, List.set_cons_succ]))); (refine take_t (i := 3) (d := 53) (oi := _) (v := ?_) rfl rfl (by kernel_rfl) (by kernel_rfl) (by kernel_rfl) (by rfl) ?_ (by assumption) ?_; rotate_left; (focus (intro w0 hSw; (try dsimp only at hSw); go_simp; (try with_reducible rfl); done)); ((try simp only [Act.put, List.setIfInBounds_toArray]); (try dsimp only [List.set_cons_zero, List.set_cons_succ]))); (refine take_t (i := 4) (d := 54) (oi := _) (v := ?_) rfl rfl (by kernel_rfl) (by kernel_rfl) (by kernel_rfl) (by rfl) ?_ (by assumption) ?_; rotate_left; (focus (intro w0 hSw; (try dsimp only at hSw); go_simp; (try with_reducible rfl); done)); ((try simp only [Act.put, List.setIfInBounds_toArray]); (try dsimp only [List.set_cons_zero, List.set_cons_succ]))); (refine take_t (i := 5) (d := 55) (oi := _) (v := ?_) rfl rfl (by kernel_rfl) (by kernel_rfl) (by kernel_rfl) (by rfl) ?_ (by assumption) ?_; rotate_left; (focus (intro w0 hSw; (try dsimp only at hSw); go_simp; (try with_reducible rfl); done)); ((try simp only [Act.put, List.setIfInBounds_toArray]); (try dsimp only [List.set_cons_zero, List.set_cons_succ]))); (refine wpAnyH_ready (rs := [2]) (by kernel_rfl) (by simp) ?_; refine AllReadyH.cons (o := _) rfl (fun K' hK => ?_) AllReadyH.nil; go_simp; (go_at_call 31; (with_reducible refine (p1.out _ hp.out.bel).mono ?_); rintro e w2 ⟨e1, k1', rfl, s1, s2, b2⟩; replace hp := Lib.hid (hp.out.below b2); clear b2; have ho1 := s1; have ho2 := s2; obtain ⟨x1, y1, rfl, -, -⟩ := s1; obtain ⟨x2, y2, rfl, -, -⟩ := s2; replace ho1 := Lib.hid ho1; replace ho2 := Lib.hid ho2); (try dsimp only); refine hK.out _ _ ?_ (fun hHeld2 => ?_); (focus ((try dsimp only); first | exact hcs.out _ hp.out | exact hcs.out _ (hp.out.drop 0); done)); clear hK K'; clear hHeld; have hHeld := hHeld2; clear hHeld2; ((try simp only [Act.put, List.setIfInBounds_toArray]); (try dsimp only [List.set_cons_zero, List.set_cons_succ]))); (refine wpAnyH_ready (rs := [6]) (by kernel_rfl) (by simp) ?_; refine AllReadyH.cons (o := _) rfl (fun K' hK => ?_) AllReadyH.nil; go_simp; (go_at_call 31; (with_reducible refine (p2.out _ hp.out.bel).mono ?_); rintro e w3 ⟨e2, k2', rfl, s3, s4, b2⟩; have ho1 := Lib.hid (ho1.out.below b2); have ho2 := Lib.hid (ho2.out.below b2); replace hp := Lib.hid (hp.out.below b2); clear b2; have ho3 := s3; have ho4 := s4; obtain ⟨x3, y3, rfl, -, -⟩ := s3; obtain ⟨x4, y4, rfl, -, -⟩ := s4; replace ho3 := Lib.hid ho3; replace ho4 := Lib.hid ho4); (try dsimp only); refine hK.out _ _ ?_ (fun hHeld2 => ?_); (focus ((try dsimp only); first | exact hcs.out _ hp.out | exact hcs.out _ (hp.out.drop 0); done)); clear hK K'; clear hHeld; have hHeld := hHeld2; clear hHeld2; ((try simp only [Act.put, List.setIfInBounds_toArray]); (try dsimp only [List.set_cons_zero, List.set_cons_succ]))); (refine wpAnyH_ready (rs := [7]) (by kernel_rfl) (by simp) ?_; refine AllReadyH.cons (o := _) rfl (fun K' hK => ?_) AllReadyH.nil; go_simp; (replace hp := Lib.hid (hp.out.alloc #[.slice x1 (ptE E 0 bst).length y1, .slice x2 (ptK E K 0 bst).length y2, .slice x3 (ptE E bst i).length y3, .slice x4 (ptK E K bst i).length y4] 25)); (try dsimp only); refine hK.out _ _ ?_ (fun hHeld2 => ?_); (focus ((try dsimp only); first | exact hcs.out _ hp.out | exact hcs.out _ (hp.out.drop 0); done)); clear hK K'; clear hHeld; have hHeld := hHeld2; clear hHeld2; ((try simp only [Act.put, List.setIfInBounds_toArray]); (try dsimp only [List.set_cons_zero, List.set_cons_succ]))); (refine take_t (i := 8) (d := 2) (oi := _) (v := ?_) rfl rfl (by kernel_rfl) (by kernel_rfl) (by kernel_rfl) (by rfl) ?_ (by assumption) ?_; rotate_left; (focus (intro w0 hSw; (try dsimp only at hSw); go_simp; (try with_reducible rfl); done)); ((try simp only [Act.put, List.setIfInBounds_toArray]); (try dsimp only [List.set_cons_zero, List.set_cons_succ]))); refine wpAnyH_done (by kernel_rfl) ?_ _; refine NoPanic.normal ?_
      go_wp2
      go_ret
      refine ⟨_, _, .slice x1 (ptE E 0 bst).length y1, .slice x2 (ptK E K 0 bst).length y2, .slice x3 (ptE E bst i).length y3, .slice x4 (ptK E K bst i).length y4, bst, rfl, ⟨hp.out.lt (i := 0) rfl, fun j v hj => ?_⟩, hB.out, ?_, ?_, ?_, ?_, hp.out.bel⟩
      · rw [Nat.zero_add, hp.out.cell (i := 0) rfl j]; simpa using hj
      · exact ho1.out.below ((Below.refl _ _).alloc (Nat.le_refl _) _)
      · exact ho2.out.below ((Below.refl _ _).alloc (Nat.le_refl _) _)
      · exact ho3.out.below ((Below.refl _ _).alloc (Nat.le_refl _) _)
      · exact ho4.out.below ((Below.refl _ _).alloc (Nat.le_refl _) _)
end Go.Proofs.Ytcdgnhhciccoeaa.nod
