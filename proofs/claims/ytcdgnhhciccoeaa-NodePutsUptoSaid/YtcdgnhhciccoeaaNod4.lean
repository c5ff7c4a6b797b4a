/- slices.Clone at entries and pages below; a part of a page (node.part). No condition but that there are few entries and pages. -/
import Derived.Test.YtcdgnhhciccoeaaNod2
import Derived.Test.YtcdgnhhciccoeaaAppS
import Derived.Deep.RegionLaw
namespace Go.Proofs.Ytcdgnhhciccoeaa.nod
open Go.RowKit
attribute [local go_sem ↓] Go.wp_at_zero Go.wp_at_succ
set_option linter.unusedVariables false
set_option linter.unusedSimpArgs false
set_option maxRecDepth 100000

def zE : Value := .agg #[.string ⟨#[]⟩, .string ⟨#[]⟩]
def zK : Value := .agg #[.string ⟨#[]⟩, .int .i64 0, .string ⟨#[]⟩]
theorem eInfo : (Try.prog.info? 43).map (fun i => (i.zero, i.size, i.bytes)) = some (some zE, 2, 32) := by kernel_rfl
theorem kInfo : (Try.prog.info? 41).map (fun i => (i.zero, i.size, i.bytes)) = some (some zK, 3, 40) := by kernel_rfl
theorem eql_nil {P : Program} (w : World) (t e : TypeId) (a : Option Addr) (l c : Nat) (h : P.underlying t = some (.slice e)) : (binOp .eql t (.slice a l c) (.slice none 0 0)).run P w = .ok (.bool a.isNone) w := by
  have := run_equal_slice_nil (w := w) t e a l c h
  simp [binOp, this]
theorem cloneE_any (v : Value) (m : Nat) (ys : List Value) (w : World) (h : Sl w v m ys) (hys : ys.length = m * 2) (h1 : ∀ u ∈ ys, u.oneCell' = true) (hm : m ≤ 1000000) :
    Calls Try.prog 39 #[v] w fun e w' => ∃ v', e = .returned v' ∧ Hp w [] [.row 43 2 v' m ys] w' := by
  have h0 := h
  obtain ⟨ad, c, rfl, hmx, hc⟩ := h
  cases ad with
  | none =>
    obtain rfl : m = 0 := by rcases hc with hc | ⟨b, o, hc, _⟩; exact hc; cases hc
    have hy0 : ys = [] := List.length_eq_zero_iff.1 (by simpa using hys)
    subst hy0
    have heq : ∀ W : World, (binOp .eql 22 (.slice none 0 c) (.slice none 0 0)).run Try.prog W = .ok (.bool true) W := fun W => eql_nil W _ _ _ _ _ Try.underlying22
    have hp := Lib.hid ((Hp.none_ w []).rowNil 43 2)
    clear h0 hc h1 hys
    go_enter Try.func39, Try.ntmps39
    go_wp2
    go_ret
    exact ⟨_, rfl, hp.out⟩
  | some ad =>
    have hp := Lib.hid ((Hp.none_ w []).rowLit #[] 43 2 0 (by decide) rfl)
    have hsl := Lib.hid (h0.below ((Below.refl _ _).alloc (Nat.le_refl _) (.cells #[] 43)))
    have heq : ∀ W : World, (binOp .eql 22 (.slice (some ad) m c) (.slice none 0 0)).run Try.prog W = .ok (.bool false) W := fun W => eql_nil W _ _ _ _ _ Try.underlying22
    clear hc h0 hmx
    replace h1 := Lib.hid h1; replace hys := Lib.hid hys; replace hm := Lib.hid hm
    go_enter Try.func39, Try.ntmps39
    go_wp2_with (at_builtin; (refine wpList_append_sl_hp rfl _ _ rfl Try.underlying22 eInfo rfl (by decide) (by decide) hp.out 0 rfl rfl rfl hsl.out hys.out h1.out (by have := hm.out; omega) ?_; intro v2 w2 hp2 hv2; replace hp := Lib.hid hp2; clear hp2; obtain ⟨ad2, cp2, rfl⟩ := hv2))
    go_ret
    exact ⟨_, rfl, by have := hp.out; simpa using this⟩
theorem cloneK_any (v : Value) (m : Nat) (ys : List Value) (w : World) (h : Sl w v m ys) (hys : ys.length = m * 3) (h1 : ∀ u ∈ ys, u.oneCell' = true) (hm : m ≤ 1000000) :
    Calls Try.prog 40 #[v] w fun e w' => ∃ v', e = .returned v' ∧ Hp w [] [.row 41 3 v' m ys] w' := by
  have h0 := h
  obtain ⟨ad, c, rfl, hmx, hc⟩ := h
  cases ad with
  | none =>
    obtain rfl : m = 0 := by rcases hc with hc | ⟨b, o, hc, _⟩; exact hc; cases hc
    have hy0 : ys = [] := List.length_eq_zero_iff.1 (by simpa using hys)
    subst hy0
    have heq : ∀ W : World, (binOp .eql 23 (.slice none 0 c) (.slice none 0 0)).run Try.prog W = .ok (.bool true) W := fun W => eql_nil W _ _ _ _ _ Try.underlying23
    have hp := Lib.hid ((Hp.none_ w []).rowNil 41 3)
    clear h0 hc h1 hys
    go_enter Try.func40, Try.ntmps40
    go_wp2
    go_ret
    exact ⟨_, rfl, hp.out⟩
  | some ad =>
    have hp := Lib.hid ((Hp.none_ w []).rowLit #[] 41 3 0 (by decide) rfl)
    have hsl := Lib.hid (h0.below ((Below.refl _ _).alloc (Nat.le_refl _) (.cells #[] 41)))
    have heq : ∀ W : World, (binOp .eql 23 (.slice (some ad) m c) (.slice none 0 0)).run Try.prog W = .ok (.bool false) W := fun W => eql_nil W _ _ _ _ _ Try.underlying23
    clear hc h0 hmx
    replace h1 := Lib.hid h1; replace hys := Lib.hid hys; replace hm := Lib.hid hm
    go_enter Try.func40, Try.ntmps40
    go_wp2_with (at_builtin; (refine wpList_append_sl_hp rfl _ _ rfl Try.underlying23 kInfo rfl (by decide) (by decide) hp.out 0 rfl rfl rfl hsl.out hys.out h1.out (by have := hm.out; omega) ?_; intro v2 w2 hp2 hv2; replace hp := Lib.hid hp2; clear hp2; obtain ⟨ad2, cp2, rfl⟩ := hv2))
    go_ret
    exact ⟨_, rfl, by have := hp.out; simpa using this⟩
/-- a slice that has no more elements than room, and its elements from one on and below another -/
def Sc (w : World) (v : Value) (n : Nat) (vs : List Value) : Prop := Sl w v n vs ∧ ∃ a c, v = .slice a n c ∧ n ≤ c ∧ c ≤ 9223372036854775807
theorem Sc.below {w w' : World} {v : Value} {n : Nat} {vs : List Value} (h : Sc w v n vs) (k : Below w.heap.size w w') : Sc w' v n vs := ⟨h.1.below k, h.2⟩
theorem Sc.ofRow {w : World} {base : Nat} {e : TypeId} {size : Nat} {v : Value} {n : Nat} {xs : List Value} (h : w.ownsRow base e size v n xs) (hn : n ≤ 140737488355328) : Sc w v n xs := by
  refine ⟨Sl.ofRow h hn, ?_⟩
  rcases h.2 with ⟨rfl, h0⟩ | ⟨g, cap, cur, rfl, hb, hg, h1, h2, h3, h4⟩
  · subst h0; exact ⟨_, _, rfl, by omega, by omega⟩
  · exact ⟨_, _, rfl, h1, by unfold maxLen at h2; omega⟩
theorem sl_part {w : World} {α : Type} (cf : α → List Value) (sz : Nat) (hcf : ∀ x, (cf x).length = sz) {a : Option Addr} {n c c' : Nat} {l : List α} (h : Sl w (.slice a n c) n (l.flatMap cf)) (hn : n = l.length) (f t : Nat) (hf : f ≤ t) (ht : t ≤ n) :
    Sl w (.slice (a.map fun x => x.add (f * sz)) (t - f) c') (t - f) (((l.take t).drop f).flatMap cf) := by
  obtain ⟨a', c2, he, hm, h⟩ := h
  injection he with e1 e2 e3
  subst e1
  refine ⟨_, _, rfl, by omega, ?_⟩
  by_cases h0 : t - f = 0
  · exact Or.inl h0
  · obtain ⟨b, o, rfl, hr⟩ := h.resolve_left (by omega)
    refine Or.inr ⟨b, o + f * sz, by simp [addr_add], hr.1, fun j v hv => ?_⟩
    have hj : j < (t - f) * sz := by
      have := (List.getElem?_eq_some_iff.1 hv).1
      rw [flat_len cf sz hcf, List.length_drop, List.length_take, Nat.min_eq_left (by omega)] at this
      exact this
    have hz : 0 < sz := by
      rcases Nat.eq_zero_or_pos sz with h | h
      · subst h; omega
      · exact h
    have hi : j / sz < t - f := (Nat.div_lt_iff_lt_mul hz).2 hj
    have hr2 := Nat.mod_lt j hz
    have hjj : j / sz * sz + j % sz = j := by have := Nat.div_add_mod j sz; rw [Nat.mul_comm] at this; omega
    obtain ⟨x, hx⟩ : ∃ x, l[f + j / sz]? = some x := ⟨_, List.getElem?_eq_getElem (by omega)⟩
    have hx2 : ((l.take t).drop f)[j / sz]? = some x := by rw [List.getElem?_drop, List.getElem?_take, if_pos (by omega)]; exact hx
    have e4 := flat_at cf sz hcf ((l.take t).drop f) (j / sz) x hx2 (j % sz) hr2
    rw [hjj, hv] at e4
    have e5 := flat_at cf sz hcf l (f + j / sz) x hx (j % sz) hr2
    rw [← e4] at e5
    have := hr.2 _ _ e5
    rw [show o + f * sz + j = o + ((f + j / sz) * sz + j % sz) by rw [Nat.add_mul]; omega]
    exact this
theorem sl_sliced {w : World} {α : Type} (cf : α → List Value) (sz : Nat) (hcf : ∀ x, (cf x).length = sz) {a : Option Addr} {n c : Nat} {l : List α} (h : Sl w (.slice a n c) n (l.flatMap cf)) (hn : n = l.length) (f t m : Nat) (hf : f ≤ t) (ht : t ≤ n) (hm : t ≤ m) :
    Sl w (sliced a f t m sz) (t - f) (((l.take t).drop f).flatMap cf) := by
  unfold sliced
  by_cases h0 : m = f
  · obtain ⟨_, _, _, hmx, _⟩ := h
    exact ⟨_, _, rfl, by omega, Or.inl (by omega)⟩
  · rw [if_neg h0]
    exact sl_part cf sz hcf h hn f t hf ht
theorem run_part3 (t sz : Nat) (ht : Try.prog.underlying t = some (.slice (Try.prog.elem t))) (hsz : ∀ W, (sizeOf (Try.prog.elem t)).run Try.prog W = .ok sz W) (a : Option Addr) (n c l h : Nat) (h1 : l ≤ h) (h2 : h ≤ c) (W : World) :
    (Instr.slice t (.slice a n c) (some (.int .i64 l)) (some (.int .i64 h)) (some (.int .i64 h))).run Try.prog W = .ok (sliced a l h h sz) W := by
  rw [run_slice_lhm W t a n c ht .i64 .i64 .i64 (l : Int) (h : Int) (h : Int) (by omega) (by omega) (by omega) (by omega), hsz]
  rfl
theorem szE (W : World) : (sizeOf (Try.prog.elem 22)).run Try.prog W = .ok 2 W := by kernel_rfl
theorem szK (W : World) : (sizeOf (Try.prog.elem 23)).run Try.prog W = .ok 3 W := by kernel_rfl
set_option maxHeartbeats 8000000 in
theorem part_any (ev kv : Value) (E : List En) (K : List Kd) (f t : Nat) (w : World) (he : Sc w ev E.length (enC E)) (hk : Sc w kv K.length (kdC K)) (hE : E.length ≤ 1000) (hK : K.length ≤ 1000) (hft : f ≤ t) (ht : t ≤ E.length + K.length) :
    Calls Try.prog 31 #[nodV ev kv, .int .i64 f, .int .i64 t] w fun e w' => ∃ ev' kv', e = .returned (nodV ev' kv') ∧ Sl w' ev' (min t E.length - min f E.length) (enC ((E.take (min t E.length)).drop (min f E.length))) ∧ Sl w' kv' ((t - E.length) - (f - E.length)) (kdC ((K.take (t - E.length)).drop (f - E.length))) ∧ Below w.heap.size w w' := by
  have hp0 := ((Hp.none_ w []).alloc #[ev, kv] 25).alloc #[.slice none 0 0, .slice none 0 0] 25
  obtain ⟨he, a, ac, rfl, hac, hac2⟩ := he
  obtain ⟨hk, b, bc, rfl, hbc, hbc2⟩ := hk
  obtain ⟨ne, hne⟩ : ∃ n, n = E.length := ⟨_, rfl⟩
  obtain ⟨nk, hnk⟩ : ∃ n, n = K.length := ⟨_, rfl⟩
  rw [← hne] at he hp0 hac hE ht ⊢
  rw [← hnk] at hk hp0 hbc hK ht ⊢
  have hq : ∀ (u : World) o, (u.alloc o).heap.size = u.heap.size + 1 := fun u o => by simp
  rw [hq] at hp0
  clear hq
  obtain ⟨mf, hmf⟩ : ∃ m, m = min f ne := ⟨_, rfl⟩
  obtain ⟨mt, hmt⟩ : ∃ m, m = min t ne := ⟨_, rfl⟩
  obtain ⟨kf, hkf⟩ : ∃ m, m = f - ne := ⟨_, rfl⟩
  obtain ⟨kt, hkt⟩ : ∃ m, m = t - ne := ⟨_, rfl⟩
  have m1 : min (f : Int) (ne : Int) = (mf : Int) := by omega
  have m2 : min (t : Int) (ne : Int) = (mt : Int) := by omega
  have m3 : max ((f : Int) - (ne : Int)) 0 = (kf : Int) := by omega
  have m4 : max ((t : Int) - (ne : Int)) 0 = (kt : Int) := by omega
  have w1 : IntKind.i64.wrap ((f : Int) - (ne : Int)) = (f : Int) - (ne : Int) := IntWalk.i64_in _ (by omega)
  have w2 : IntKind.i64.wrap ((t : Int) - (ne : Int)) = (t : Int) - (ne : Int) := IntWalk.i64_in _ (by omega)
  have w3 : wrap64 ((f : Int) - (ne : Int)) = (f : Int) - (ne : Int) := by unfold wrap64; omega
  have w4 : wrap64 ((t : Int) - (ne : Int)) = (t : Int) - (ne : Int) := by unfold wrap64; omega
  rw [← hmf, ← hmt, ← hkf, ← hkt]
  replace hp0 := Lib.hid hp0; replace he := Lib.hid he; replace hk := Lib.hid hk; replace hne := Lib.hid hne; replace hnk := Lib.hid hnk
  have hsE := he.out
  have hsK := hk.out
  have s1 := sl_sliced En.c 2 En.c_len hsE hne.out mf mt mt (by omega) (by omega) (Nat.le_refl _)
  have s2 := sl_sliced Kd.c 3 Kd.c_len hsK hnk.out kf kt kt (by omega) (by omega) (Nat.le_refl _)
  have r1 := fun W => run_part3 22 2 Try.underlying22 szE a ne ac mf mt (by omega) (by omega) W
  have r2 := fun W => run_part3 23 3 Try.underlying23 szK b nk bc kf kt (by omega) (by omega) W
  have hn1 : (((E.take mt).drop mf).flatMap En.c).length = (mt - mf) * 2 := by rw [flat_len En.c 2 En.c_len, List.length_drop, List.length_take, Nat.min_eq_left (by have := hne.out; omega)]
  have hn2 : (((K.take kt).drop kf).flatMap Kd.c).length = (kt - kf) * 3 := by rw [flat_len Kd.c 3 Kd.c_len, List.length_drop, List.length_take, Nat.min_eq_left (by have := hnk.out; omega)]
  have ho1 := enC_one ((E.take mt).drop mf)
  have ho2 := kdC_one ((K.take kt).drop kf)
  have hb1 : mt - mf ≤ 1000000 := by omega
  have hb2 : kt - kf ≤ 1000000 := by omega
  have hb3 : mt - mf ≤ 140737488355328 := by omega
  have hb4 : kt - kf ≤ 140737488355328 := by omega
  generalize sliced a mf mt mt 2 = v1 at s1 r1
  generalize sliced b kf kt kt 3 = v2 at s2 r2
  unfold enC at ho1 ⊢
  unfold kdC at ho2 ⊢
  generalize ((E.take mt).drop mf).flatMap En.c = y1 at s1 hn1 ho1 ⊢
  generalize ((K.take kt).drop kf).flatMap Kd.c = y2 at s2 hn2 ho2 ⊢
  generalize mt - mf = d1 at s1 hn1 hb1 hb3 ⊢
  generalize kt - kf = d2 at s2 hn2 hb2 hb4 ⊢
  have k1 : ∀ W', Below w.heap.size w W' → Calls Try.prog 39 #[v1] W' fun e w' => ∃ v', e = .returned v' ∧ Hp W' [] [.row 43 2 v' d1 y1] w' := fun W' hb => cloneE_any v1 d1 y1 W' (s1.below hb) hn1 ho1 hb1
  have k2 : ∀ W', Below w.heap.size w W' → Calls Try.prog 40 #[v2] W' fun e w' => ∃ v', e = .returned v' ∧ Hp W' [] [.row 41 3 v' d2 y2] w' := fun W' hb => cloneK_any v2 d2 y2 W' (s2.below hb) hn2 ho2 hb2
  clear hsE hsK he hk hne hnk s1 s2 hn1 hn2 ho1 ho2 hb1 hb2 hac hac2 hbc hbc2 hE hK hft ht
  replace hmf := Lib.hid hmf; replace hmt := Lib.hid hmt; replace hkf := Lib.hid hkf; replace hkt := Lib.hid hkt
  replace k1 := Lib.hid k1; replace k2 := Lib.hid k2; replace hb3 := Lib.hid hb3; replace hb4 := Lib.hid hb4
  unfold nodV
  go_enter Try.func31, Try.ntmps31
  go_upto_region 1 with fail
  generalize (w.alloc _).alloc _ = W at hp0 ⊢
  generalize hq3 : w.heap.size + 1 = q3 at hp0 ⊢
  generalize hq2 : w.heap.size = q2 at hp0 ⊢
  clear hq3 hq2
  have hcs : ∀ (rs : List Rs) (i : Nat) (W' : World), Hp w [] rs W' → rs[i]? = some (.box q2 #[.slice a ne ac, .slice b nk bc] 25) → W'.cell? ⟨q2, 0, none⟩ = some (.slice a ne ac) ∧ W'.cell? ⟨q2, 1, none⟩ = some (.slice b nk bc) := fun rs i W' h hi => ⟨(h.cell hi 0).trans rfl, (h.cell hi 1).trans rfl⟩
  replace hcs := Lib.hid hcs
  obtain ⟨c0, c1⟩ := hcs.out _ 1 _ hp0.out rfl
  go_upto_region 4 with fail
  clear c0 c1 m1 m2 m3 m4 w1 w2 w3 w4
  have hp := Lib.hid hp0.out.drew
  clear hp0
  refine wp_region_noPanic ?_; refine wp_region_held_drew (S := (fun W' => W'.cell? ⟨q2, 0, none⟩ = some (.slice a ne ac) ∧ W'.cell? ⟨q2, 1, none⟩ = some (.slice b nk bc))) (by kernel_rfl) ?_ (fun hHeld => ?_); (focus ((try dsimp only); first | exact hcs.out _ 1 _ hp.out rfl | exact hcs.out _ 2 _ hp.out rfl | exact hcs.out _ 3 _ hp.out rfl; done)); (refine take_t (i := 0) (d := 29) (oi := _) (v := ?_) rfl rfl (by kernel_rfl) (by kernel_rfl) (by kernel_rfl) (by rfl) ?_ (by assumption) ?_; rotate_left; (focus (intro w0 hSw; (try dsimp only at hSw); go_simp; (try with_reducible rfl); done)); ((try simp only [Act.put, List.setIfInBounds_toArray]); (try dsimp only [List.set_cons_zero, List.set_cons_succ]))); (refine take_t (i := 1) (d := 30) (oi := _) (v := ?_) rfl rfl (by kernel_rfl) (by kernel_rfl) (by kernel_rfl) (by rfl) ?_ (by assumption) ?_; rotate_left; (focus (intro w0 hSw; (try dsimp only at hSw); go_simp; (try with_reducible rfl); done)); ((try simp only [Act.put, List.setIfInBounds_toArray]); (try dsimp only [List.set_cons_zero, List.set_cons_succ]))); (refine take_t (i := 2) (d := 31) (oi := _) (v := ?_) rfl rfl (by kernel_rfl) (by kernel_rfl) (by kernel_rfl) (by rfl) ?_ (by assumption) ?_; rotate_left; (focus (intro w0 hSw; (try dsimp only at hSw); go_simp; (try with_reducible rfl); done)); ((try simp only [Act.put, List.setIfInBounds_toArray]); (try dsimp only [List.set_cons_zero, List.set_cons_succ]))); (refine take_t (i := 3) (d := 32) (oi := _) (v := ?_) rfl rfl (by kernel_rfl) (by kernel_rfl) (by kernel_rfl) (by rfl) ?_ (by assumption) ?_; rotate_left; (focus (intro w0 hSw; (try dsimp only at hSw); go_simp; (try with_reducible rfl); done)); ((try simp only [Act.put, List.setIfInBounds_toArray]); (try dsimp only [List.set_cons_zero, List.set_cons_succ]))); (refine take_t (i := 4) (d := 33) (oi := _) (v := ?_) rfl rfl (by kernel_rfl) (by kernel_rfl) (by kernel_rfl) (by rfl) ?_ (by assumption) ?_; rotate_left; (focus (intro w0 hSw; (try dsimp only at hSw); go_simp; (try with_reducible rfl); done)); ((try simp only [Act.put, List.setIfInBounds_toArray]); (try dsimp only [List.set_cons_zero, List.set_cons_succ]))); (refine take_t (i := 5) (d := 34) (oi := _) (v := ?_) rfl rfl (by kernel_rfl) (by kernel_rfl) (by kernel_rfl) (by rfl) ?_ (by assumption) ?_; rotate_left; (focus (intro w0 hSw; (try dsimp only at hSw); go_simp; (try with_reducible rfl); done)); ((try simp only [Act.put, List.setIfInBounds_toArray]); (try dsimp only [List.set_cons_zero, List.set_cons_succ]))); (refine take_t (i := 7) (d := 36) (oi := _) (v := ?_) rfl rfl (by kernel_rfl) (by kernel_rfl) (by kernel_rfl) (by rfl) ?_ (by assumption) ?_; rotate_left; (focus (intro w0 hSw; (try dsimp only at hSw); go_simp; (try with_reducible rfl); done)); ((try simp only [Act.put, List.setIfInBounds_toArray]); (try dsimp only [List.set_cons_zero, List.set_cons_succ]))); (refine take_t (i := 8) (d := 37) (oi := _) (v := ?_) rfl rfl (by kernel_rfl) (by kernel_rfl) (by kernel_rfl) (by rfl) ?_ (by assumption) ?_; rotate_left; (focus (intro w0 hSw; (try dsimp only at hSw); go_simp; (try with_reducible rfl); done)); ((try simp only [Act.put, List.setIfInBounds_toArray]); (try dsimp only [List.set_cons_zero, List.set_cons_succ]))); (refine take_t (i := 9) (d := 38) (oi := _) (v := ?_) rfl rfl (by kernel_rfl) (by kernel_rfl) (by kernel_rfl) (by rfl) ?_ (by assumption) ?_; rotate_left; (focus (intro w0 hSw; (try dsimp only at hSw); go_simp; (try with_reducible rfl); done)); ((try simp only [Act.put, List.setIfInBounds_toArray]); (try dsimp only [List.set_cons_zero, List.set_cons_succ]))); (refine take_t (i := 10) (d := 39) (oi := _) (v := ?_) rfl rfl (by kernel_rfl) (by kernel_rfl) (by kernel_rfl) (by rfl) ?_ (by assumption) ?_; rotate_left; (focus (intro w0 hSw; (try dsimp only at hSw); go_simp; (try with_reducible rfl); done)); ((try simp only [Act.put, List.setIfInBounds_toArray]); (try dsimp only [List.set_cons_zero, List.set_cons_succ]))); (refine take_t (i := 11) (d := 40) (oi := _) (v := ?_) rfl rfl (by kernel_rfl) (by kernel_rfl) (by kernel_rfl) (by rfl) ?_ (by assumption) ?_; rotate_left; (focus (intro w0 hSw; (try dsimp only at hSw); go_simp; (try with_reducible rfl); done)); ((try simp only [Act.put, List.setIfInBounds_toArray]); (try dsimp only [List.set_cons_zero, List.set_cons_succ]))); (refine take_t (i := 12) (d := 41) (oi := _) (v := ?_) rfl rfl (by kernel_rfl) (by kernel_rfl) (by kernel_rfl) (by rfl) ?_ (by assumption) ?_; rotate_left; (focus (intro w0 hSw; (try dsimp only at hSw); go_simp; (try with_reducible rfl); done)); ((try simp only [Act.put, List.setIfInBounds_toArray]); (try dsimp only [List.set_cons_zero, List.set_cons_succ]))); (refine wpAnyH_ready (rs := [6]) (by kernel_rfl) (by simp) ?_; refine AllReadyH.cons (o := _) rfl (fun K' hK => ?_) AllReadyH.nil; go_simp; (go_at_call 39; (with_reducible refine (k1.out _ hp.out.bel).mono ?_); rintro e w2 ⟨u1, rfl, h2⟩; obtain ⟨ad1, cp1, rfl⟩ := rowShape (h2.row (i := 0) rfl); replace hp := Lib.hid (hp.out.take h2); clear h2); (try dsimp only); refine hK.out _ _ ?_ (fun hHeld2 => ?_); (focus ((try dsimp only); first | exact hcs.out _ 1 _ hp.out rfl | exact hcs.out _ 2 _ hp.out rfl | exact hcs.out _ 3 _ hp.out rfl; done)); clear hK K'; clear hHeld; have hHeld := hHeld2; clear hHeld2; ((try simp only [Act.put, List.setIfInBounds_toArray]); (try dsimp only [List.set_cons_zero, List.set_cons_succ]))); (refine wpAnyH_ready (rs := [13]) (by kernel_rfl) (by simp) ?_; refine AllReadyH.cons (o := _) rfl (fun K' hK => ?_) AllReadyH.nil; go_simp; (go_at_call 40; (with_reducible refine (k2.out _ hp.out.bel).mono ?_); rintro e w2 ⟨u2, rfl, h2⟩; obtain ⟨ad2, cp2, rfl⟩ := rowShape (h2.row (i := 0) rfl); replace hp := Lib.hid (hp.out.take h2); clear h2; have z0 := hp.out.free (i := 2) rfl 0; have z1 := hp.out.free (i := 2) rfl 1; have y0 := hp.out.cell (i := 2) rfl 0; have y1 := hp.out.cell (i := 2) rfl 1; simp at y0 y1); (try dsimp only); refine hK.out _ _ ?_ (fun hHeld2 => ?_); (focus ((try dsimp only); first | exact hcs.out _ 1 _ hp.out rfl | exact hcs.out _ 2 _ hp.out rfl | exact hcs.out _ 3 _ hp.out rfl; done)); clear hK K'; clear hHeld; have hHeld := hHeld2; clear hHeld2; ((try simp only [Act.put, List.setIfInBounds_toArray]); (try dsimp only [List.set_cons_zero, List.set_cons_succ]))); (refine take_t (i := 14) (d := 43) (oi := _) (v := ?_) rfl rfl (by kernel_rfl) (by kernel_rfl) (by kernel_rfl) (by rfl) ?_ (by assumption) ?_; rotate_left; (focus (intro w0 hSw; (try dsimp only at hSw); go_simp; (try with_reducible rfl); done)); ((try simp only [Act.put, List.setIfInBounds_toArray]); (try dsimp only [List.set_cons_zero, List.set_cons_succ]))); (refine wpAnyH_ready (rs := [15]) (by kernel_rfl) (by simp) ?_; refine AllReadyH.cons (o := _) rfl (fun K' hK => ?_) AllReadyH.nil; go_simp; (replace hp := Lib.hid ((hp.out.put (i := 2) rfl 0 (.slice ad1 d1 cp1)).put (i := 2) rfl 1 (.slice ad2 d2 cp2))); (try dsimp only); refine hK.out _ _ ?_ (fun hHeld2 => ?_); (focus ((try dsimp only); first | exact hcs.out _ 1 _ hp.out rfl | exact hcs.out _ 2 _ hp.out rfl | exact hcs.out _ 3 _ hp.out rfl; done)); clear hK K'; clear hHeld; have hHeld := hHeld2; clear hHeld2; ((try simp only [Act.put, List.setIfInBounds_toArray]); (try dsimp only [List.set_cons_zero, List.set_cons_succ]))); refine wpAnyH_done (by kernel_rfl) ?_ _; refine NoPanic.normal ?_
  generalize (w2.setCell _ _).setCell _ _ = w3 at hp hHeld ⊢
  have f0 := hp.out.cell (i := 2) rfl 0; have f1 := hp.out.cell (i := 2) rfl 1
  simp at f0 f1
  clear z0 z1 y0 y1 hHeld
  go_wp2
  (try simp only [Exit.inBlock, Exit.then])
  refine bodyPost_ret (v := .agg #[.slice ad1 d1 cp1, .slice ad2 d2 cp2]) (results_cell_row rfl _ _ q3 25 #[.slice ad1 d1 cp1, .slice ad2 d2 cp2] (0, 0) _ rfl (hp.out.box (i := 2) rfl) Try.underlying25 rfl (by kernel_rfl)) rfl ?_
  exact ⟨_, _, rfl, hp.out.sl (i := 1) rfl hb3.out, hp.out.sl (i := 0) rfl hb4.out, hp.out.bel⟩
end Go.Proofs.Ytcdgnhhciccoeaa.nod
