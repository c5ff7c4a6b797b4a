/- A question's parser (package query): the next word; taking one; wrong. No condition but where the words lie. -/
import Derived.Test.YtgbkpkioijbgoaaDoorQryM
import Derived.Test.YtgbkpkioijbgoaaDoorLex5
import Derived.Test.YtgbkpkioijbgoaaDoorRegSeq
namespace Go.Proofs.YtgbkpkioijbgoaaDoor.qry
open Go.RowKit
open lex (W wv)
open names (Nm mayN)
attribute [local go_sem ↓] Go.wp_at_zero Go.wp_at_succ
attribute [local go_sem] str_size str_bl
set_option linter.unusedVariables false
set_option linter.unusedSimpArgs false
set_option maxRecDepth 100000

/-- words that are a text's -/
structure Wf (ws : List W) : Prop where
  len : ws.length ≤ 1001
  last : ∀ (i : Nat) (x : W), ws[i]? = some x → i + 1 = ws.length → x.kind = 0
  num : ∀ x ∈ ws, x.n ≤ 9223372036854775807
  txt : ∀ x ∈ ws, x.s.length ≤ 1000
  pos : ∀ x ∈ ws, x.pos ≤ 1000
def psC (b cap n : Nat) (st : St) : Array Value := #[.slice (some ⟨b, 0, none⟩) n cap, .int .i64 (st.at_ : Int), .bool st.bad]
/-- where the words lie -/
def WsAt (ws : List W) (b : Nat) (w : World) : Prop := b < w.heap.size ∧ ∀ (i : Nat) (x : W), ws[i]? = some x → w.cell? ⟨b, i * 4, none⟩ = some (.int .i64 (x.kind : Int)) ∧ w.cell? ⟨b, i * 4 + 1, none⟩ = some (.string (str x.s)) ∧ w.cell? ⟨b, i * 4 + 2, none⟩ = some (.int .i64 (x.n : Int)) ∧ w.cell? ⟨b, i * 4 + 3, none⟩ = some (.int .i64 (x.pos : Int))
theorem WsAt.keep {ws : List W} {b : Nat} {w w' : World} {X : List Nat} (h : WsAt ws b w) (k : Keeps X w w') (hb : b ∉ X) : WsAt ws b w' :=
  ⟨Nat.lt_of_lt_of_le h.1 k.size, fun i x hx => by
    obtain ⟨h0, h1, h2, h3⟩ := h.2 i x hx
    exact ⟨(k.cell h.1 hb).trans h0, (k.cell h.1 hb).trans h1, (k.cell h.1 hb).trans h2, (k.cell h.1 hb).trans h3⟩⟩
/-- where the texts of a table lie -/
def TblAt (t : Nat) (l : List Nm) (w : World) : Prop := t < w.heap.size ∧ ∀ (i : Nat) (m : Nm), l[i]? = some m → w.cell? ⟨t, i, none⟩ = some (.string (str m))
theorem TblAt.keep {t : Nat} {l : List Nm} {w w' : World} {X : List Nat} (h : TblAt t l w) (k : Keeps X w w') (hb : t ∉ X) : TblAt t l w' :=
  ⟨Nat.lt_of_lt_of_le h.1 k.size, fun i m hm => (k.cell h.1 hb).trans (h.2 i m hm)⟩
theorem TblAt.below {t : Nat} {l : List Nm} {w w' : World} (h : TblAt t l w) (k : Below w.heap.size w w') : TblAt t l w' :=
  ⟨Nat.lt_of_lt_of_le h.1 k.size, fun i m hm => (k.cell h.1).trans (h.2 i m hm)⟩
/-- a parser -/
structure Pz (ws : List W) (b cap g : Nat) (st : St) (w : World) : Prop where
  wf : Wf ws
  box : w.heap[g]? = some (.cells (psC b cap ws.length st) 68 (0, 0))
  ne : b ≠ g
  wsat : WsAt ws b w
  lt : st.at_ < ws.length
  pl : TblAt 3 plainL w
  op : TblAt 2 opsL w
  npl : 3 ≠ g
  nop : 2 ≠ g
theorem Pz.below {ws : List W} {b cap g : Nat} {st : St} {w w' : World} (h : Pz ws b cap g st w) (k : Below w.heap.size w w') : Pz ws b cap g st w' :=
  ⟨h.wf, (k.block g (block_lt h.box)).trans h.box, h.ne, ⟨Nat.lt_of_lt_of_le h.wsat.1 k.size, fun i x hx => by
    obtain ⟨h0, h1, h2, h3⟩ := h.wsat.2 i x hx
    exact ⟨(k.cell h.wsat.1).trans h0, (k.cell h.wsat.1).trans h1, (k.cell h.wsat.1).trans h2, (k.cell h.wsat.1).trans h3⟩⟩, h.lt, h.pl.below k, h.op.below k, h.npl, h.nop⟩
theorem Pz.of {ws : List W} {b cap g : Nat} {st st' : St} {w w' : World} (h : Pz ws b cap g st w) {rs : List Rs} {i : Nat} (hp : Hp w [g] rs w') (hi : rs[i]? = some (.box g (psC b cap ws.length st') 68)) (hl : st'.at_ < ws.length) : Pz ws b cap g st' w' ∧ Keeps [g] w w' :=
  ⟨⟨h.wf, hp.box hi, h.ne, h.wsat.keep hp.kp (by simpa using h.ne), hl, h.pl.keep hp.kp (by simpa using h.npl), h.op.keep hp.kp (by simpa using h.nop), h.npl, h.nop⟩, hp.kp⟩
theorem Pz.at_ {ws : List W} {b cap g : Nat} {st : St} {w : World} (h : Pz ws b cap g st w) : ws[st.at_]? = some (wd ws st.at_) := by
  unfold wd
  rw [List.getD_eq_getElem?_getD, List.getElem?_eq_getElem h.lt]; rfl
theorem Pz.mem {ws : List W} {b cap g : Nat} {st : St} {w : World} (h : Pz ws b cap g st w) : wd ws st.at_ ∈ ws := List.mem_of_getElem? h.at_
theorem Pz.step {ws : List W} {b cap g : Nat} {st : St} {w : World} (h : Pz ws b cap g st w) (hk : (wd ws st.at_).kind ≠ 0) : st.at_ + 1 < ws.length := by
  have h1 := h.wf.last st.at_ _ h.at_
  have h2 := h.lt
  rcases Nat.lt_or_ge (st.at_ + 1) ws.length with h3 | h3
  · exact h3
  · exact absurd (h1 (by omega)) hk
theorem word4 : (Tryd.prog.info? 71).map (·.size) = some 4 := by kernel_rfl
abbrev pv (g : Nat) : Value := .pointer (some ⟨g, 0, none⟩)
/-- what a parser's method hands back -/
def PR (ws : List W) (b cap g : Nat) (w : World) (v : Value) (st : St) (e : Ending) (w' : World) : Prop := e = .returned v ∧ Pz ws b cap g st w' ∧ Keeps [g] w w'
set_option maxHeartbeats 2000000 in
theorem word_any {ws : List W} {b cap g : Nat} {st : St} {w : World} (h : Pz ws b cap g st w) :
    Calls Tryd.prog 23 #[pv g] w fun e w' => e = .returned (.agg #[.int .i64 ((wd ws st.at_).kind : Int), .string (str (wd ws st.at_).s), .int .i64 ((wd ws st.at_).n : Int), .int .i64 ((wd ws st.at_).pos : Int)]) ∧ Below w.heap.size w w' := by
  obtain ⟨x, hx⟩ : ∃ x, x = wd ws st.at_ := ⟨_, rfl⟩
  have hat := h.at_
  rw [← hx] at hat ⊢
  obtain ⟨d0, d1, d2, d3⟩ := h.wsat.2 _ _ hat
  obtain ⟨i, hi⟩ : ∃ i, i = st.at_ := ⟨_, rfl⟩
  obtain ⟨n, hn⟩ : ∃ n, n = ws.length := ⟨_, rfl⟩
  have hb := h.wsat.1
  have hbx := h.box
  have hlt := h.lt
  unfold psC at hbx
  rw [← hi] at d0 d1 d2 d3 hbx hlt
  rw [← hn] at hbx hlt
  obtain ⟨bd, hbd⟩ : ∃ bd, bd = st.bad := ⟨_, rfl⟩
  rw [← hbd] at hbx
  obtain ⟨k, s, m, ps⟩ := x
  simp only at d0 d1 d2 d3 ⊢
  have e1 : (0 : Int) ≤ (i : Int) := by omega
  have e2 : (i : Int) < (n : Int) := by omega
  have hsk := Lib.hid (show ∀ (rs : List Rs) (W' : World), Hp w [] rs W' → (W'.cell? ⟨g, 0, none⟩ = some (.slice (some ⟨b, 0, none⟩) n cap) ∧ W'.cell? ⟨g, 1, none⟩ = some (.int .i64 (i : Int)) ∧ W'.cell? ⟨b, i * 4, none⟩ = some (.int .i64 (k : Int)) ∧ W'.cell? ⟨b, i * 4 + 1, none⟩ = some (.string (str s)) ∧ W'.cell? ⟨b, i * 4 + 2, none⟩ = some (.int .i64 (m : Int)) ∧ W'.cell? ⟨b, i * 4 + 3, none⟩ = some (.int .i64 (ps : Int))) from fun rs W' hp => ⟨(hp.bel.cell (block_lt hbx)).trans (cell_of_row _ _ 0 _ _ _ hbx), (hp.bel.cell (block_lt hbx)).trans (cell_of_row _ _ 1 _ _ _ hbx), (hp.bel.cell hb).trans d0, (hp.bel.cell hb).trans d1, (hp.bel.cell hb).trans d2, (hp.bel.cell hb).trans d3⟩)
  have hp0 := (Hp.none_ w []).alloc #[.int .i64 0, .string ⟨#[]⟩, .int .i64 0, .int .i64 0] 71
  replace hp0 := Lib.hid hp0
  clear hat hx hi hn hbx hbd hlt d0 d1 d2 d3 h hb
  go_enter Tryd.func23, Tryd.ntmps23
  go_upto_region 1 with fail
  replace hp0 := Lib.hid hp0.out.drew
  refine wp_region_noPanic ?_; refine wp_region_held_drew (S := (fun W' => W'.cell? ⟨g, 0, none⟩ = some (.slice (some ⟨b, 0, none⟩) n cap) ∧ W'.cell? ⟨g, 1, none⟩ = some (.int .i64 (i : Int)) ∧ W'.cell? ⟨b, i * 4, none⟩ = some (.int .i64 (k : Int)) ∧ W'.cell? ⟨b, i * 4 + 1, none⟩ = some (.string (str s)) ∧ W'.cell? ⟨b, i * 4 + 2, none⟩ = some (.int .i64 (m : Int)) ∧ W'.cell? ⟨b, i * 4 + 3, none⟩ = some (.int .i64 (ps : Int)))) (by kernel_rfl) ?_ (fun hHeld => ?_); (focus ((try dsimp only); (exact hsk.out _ _ hp0.out); done)); (refine take_t (i := 0) (d := 3) (oi := _) (v := ?_) rfl rfl (by kernel_rfl) (by kernel_rfl) (by kernel_rfl) (by rfl) ?_ (by assumption) ?_; rotate_left; (focus (intro w0 hSw; (try dsimp only at hSw); go_simp; (try with_reducible rfl); done)); try simp only [Act.put, List.setIfInBounds_toArray, List.set_cons_zero, List.set_cons_succ]); (refine take_t (i := 1) (d := 4) (oi := _) (v := ?_) rfl rfl (by kernel_rfl) (by kernel_rfl) (by kernel_rfl) (by rfl) ?_ (by assumption) ?_; rotate_left; (focus (intro w0 hSw; (try dsimp only at hSw); go_simp; (try with_reducible rfl); done)); try simp only [Act.put, List.setIfInBounds_toArray, List.set_cons_zero, List.set_cons_succ]); (refine take_t (i := 2) (d := 5) (oi := _) (v := ?_) rfl rfl (by kernel_rfl) (by kernel_rfl) (by kernel_rfl) (by rfl) ?_ (by assumption) ?_; rotate_left; (focus (intro w0 hSw; (try dsimp only at hSw); go_simp; (try with_reducible rfl); done)); try simp only [Act.put, List.setIfInBounds_toArray, List.set_cons_zero, List.set_cons_succ]); (refine take_t (i := 3) (d := 6) (oi := _) (v := ?_) rfl rfl (by kernel_rfl) (by kernel_rfl) (by kernel_rfl) (by rfl) ?_ (by assumption) ?_; rotate_left; (focus (intro w0 hSw; (try dsimp only at hSw); go_simp; (try with_reducible rfl); done)); try simp only [Act.put, List.setIfInBounds_toArray, List.set_cons_zero, List.set_cons_succ]); (refine take_t (i := 4) (d := 7) (oi := _) (v := ?_) rfl rfl (by kernel_rfl) (by kernel_rfl) (by kernel_rfl) (by rfl) ?_ (by assumption) ?_; rotate_left; (focus (intro w0 hSw; (try dsimp only at hSw); go_simp; (try with_reducible rfl); done)); try simp only [Act.put, List.setIfInBounds_toArray, List.set_cons_zero, List.set_cons_succ]); (refine take_t (i := 5) (d := 8) (oi := _) (v := ?_) rfl rfl (by kernel_rfl) (by kernel_rfl) (by kernel_rfl) (by rfl) ?_ (by assumption) ?_; rotate_left; (focus (intro w0 hSw; (try dsimp only at hSw); go_simp; (try with_reducible rfl); done)); try simp only [Act.put, List.setIfInBounds_toArray, List.set_cons_zero, List.set_cons_succ]); (refine take_t (i := 6) (d := 9) (oi := _) (v := ?_) rfl rfl (by kernel_rfl) (by kernel_rfl) (by kernel_rfl) (by rfl) ?_ (by assumption) ?_; rotate_left; (focus (intro w0 hSw; (try dsimp only at hSw); go_simp; (try with_reducible rfl); done)); try simp only [Act.put, List.setIfInBounds_toArray, List.set_cons_zero, List.set_cons_succ]); (refine take_t (i := 7) (d := 10) (oi := _) (v := ?_) rfl rfl (by kernel_rfl) (by kernel_rfl) (by kernel_rfl) (by rfl) ?_ (by assumption) ?_; rotate_left; (focus (intro w0 hSw; (try dsimp only at hSw); go_simp; (try with_reducible rfl); done)); try simp only [Act.put, List.setIfInBounds_toArray, List.set_cons_zero, List.set_cons_succ]); (refine take_t (i := 8) (d := 11) (oi := _) (v := ?_) rfl rfl (by kernel_rfl) (by kernel_rfl) (by kernel_rfl) (by rfl) ?_ (by assumption) ?_; rotate_left; (focus (intro w0 hSw; (try dsimp only at hSw); go_simp; (try with_reducible rfl); done)); try simp only [Act.put, List.setIfInBounds_toArray, List.set_cons_zero, List.set_cons_succ]); (refine take_t (i := 9) (d := 12) (oi := _) (v := ?_) rfl rfl (by kernel_rfl) (by kernel_rfl) (by kernel_rfl) (by rfl) ?_ (by assumption) ?_; rotate_left; (focus (intro w0 hSw; (try dsimp only at hSw); go_simp; (try with_reducible rfl); done)); try simp only [Act.put, List.setIfInBounds_toArray, List.set_cons_zero, List.set_cons_succ]); (refine wpAnyH_ready (rs := [10]) (by kernel_rfl) (by simp) ?_; refine AllReadyH.cons (o := _) rfl (fun K' hK => ?_) AllReadyH.nil; go_simp; (replace hp0 := Lib.hid (((Hp.none_ w []).alloc #[.int .i64 (k : Int), .string (str s), .int .i64 (m : Int), .int .i64 (ps : Int)] 71).drew)); (try dsimp only); refine hK.out _ _ ?_ (fun hHeld2 => ?_); (focus ((try dsimp only); (exact hsk.out _ _ hp0.out); done)); clear hK K'; clear hHeld; have hHeld := hHeld2; clear hHeld2; try simp only [Act.put, List.setIfInBounds_toArray, List.set_cons_zero, List.set_cons_succ]); refine wpAnyH_done (by kernel_rfl) ?_ _; refine NoPanic.normal ?_
  go_wp2
  have hpg := hp0.out
  exact bodyPost_ret (v := .agg #[.int .i64 (k : Int), .string (str s), .int .i64 (m : Int), .int .i64 (ps : Int)]) (results_cell_row rfl _ _ w.heap.size 71 #[.int .i64 (k : Int), .string (str s), .int .i64 (m : Int), .int .i64 (ps : Int)] (0, 0) _ rfl (hpg.box (i := 0) rfl) Tryd.underlying71 rfl word4) rfl ⟨rfl, hpg.bel⟩
set_option maxHeartbeats 1000000 in
theorem must_any {ws : List W} {b cap g : Nat} {st : St} {w : World} (h : Pz ws b cap g st w) (c : Bool) :
    Calls Tryd.prog 54 #[pv g, .bool c] w fun e w' => e = .returned (.tuple #[]) ∧ Pz ws b cap g (mustM c st) w' ∧ Keeps [g] w w' := by
  have hp := Hp.lend h.box
  replace hp := Lib.hid hp
  replace h := Lib.hid h
  cases c with
  | true =>
    go_enter Tryd.func54, Tryd.ntmps54
    go_wp2
    go_end0
    exact ⟨rfl, Pz.of h.out hp.out (i := 0) rfl h.out.lt⟩
  | false =>
    unfold psC at hp
    have c2 := hp.out.cell (i := 0) rfl 2
    have f2 := hp.out.free (i := 0) rfl 2
    simp at c2
    go_enter Tryd.func54, Tryd.ntmps54
    go_wp2
    go_end0
    exact ⟨rfl, Pz.of h.out (hp.out.put (i := 0) rfl 2 (.bool true)) (i := 0) rfl h.out.lt⟩
set_option maxHeartbeats 2000000 in
theorem next_any {ws : List W} {b cap g : Nat} {st : St} {w : World} (h : Pz ws b cap g st w) (k : Nat) (kI : Int) (hkI : kI = (k : Int)) (hk0 : k ≠ 0) (s : Nm) :
    Calls Tryd.prog 87 #[pv g, .int .i64 kI, .string (str s)] w (PR ws b cap g w (.bool (isM ws k s st)) (nextM ws k s st)) := by
  subst hkI
  have cw := word_any h
  have hstep := h.step
  have hlen := h.wf.len
  have hp := Hp.lend h.box
  obtain ⟨x, hx⟩ : ∃ x, x = wd ws st.at_ := ⟨_, rfl⟩
  have hM : isM ws k s st = (!st.bad && (decide (x.kind = k) && decide (x.s = s))) := by rw [hx]; rfl
  have hN : nextM ws k s st = if isM ws k s st then st.adv else st := rfl
  rw [← hx] at cw hstep
  replace cw := Lib.hid cw; replace h := Lib.hid h; replace hp := Lib.hid hp
  obtain ⟨xk, xs, xn, xp⟩ := x
  simp only at cw hM hstep
  obtain ⟨i, bd⟩ := st
  obtain ⟨r, hr⟩ : ∃ r, r = isM ws k s ⟨i, bd⟩ := ⟨_, rfl⟩
  rw [← hr] at hM hN ⊢
  simp only at hM
  clear hx hr
  have i3 : IntKind.i64.wrap ((i : Int) + 1) = (i : Int) + 1 := IntWalk.i64_in _ (by have := h.out.lt; simp only at this; omega)
  unfold psC at hp
  simp only at hp
  have hc1 : ((xk : Int) == (k : Int)) = decide (xk = k) := by rw [Bool.eq_iff_iff]; simp; omega
  have hc2 : (xs == s) = decide (xs = s) := by rw [Bool.eq_iff_iff]; simp
  have key : (r = true ∧ bd = false ∧ xk = k ∧ xs = s) ∨ (r = false ∧ bd = true) ∨ (r = false ∧ bd = false ∧ xk ≠ k) ∨ (r = false ∧ bd = false ∧ xk = k ∧ xs ≠ s) := by
    cases bd
    · by_cases h1 : xk = k
      · by_cases h2 : xs = s
        · exact Or.inl ⟨by rw [hM]; simp [h1, h2], rfl, h1, h2⟩
        · exact Or.inr (Or.inr (Or.inr ⟨by rw [hM]; simp [h1, h2], rfl, h1, h2⟩))
      · exact Or.inr (Or.inr (Or.inl ⟨by rw [hM]; simp [h1], rfl, h1⟩))
    · exact Or.inr (Or.inl ⟨by rw [hM]; simp, rfl⟩)
  have arm : True := trivial
  rcases key with ⟨rfl, rfl, h1, h2⟩ | ⟨rfl, rfl⟩ | ⟨rfl, rfl, h1⟩ | ⟨rfl, rfl, h1, h2⟩
  · have hl := hstep (by omega)
    subst h1; subst h2
    simp only [decide_true] at hc1 hc2
    have hN2 := Lib.hid hN
    clear hM hN hstep
    go_enter Tryd.func87, Tryd.ntmps87
    go_upto_region 2 with (go_at_call 23; (with_reducible refine cw.out.mono ?_); rintro e w1 ⟨rfl, b1⟩; replace hp := Lib.hid ((hp.out.below b1).alloc #[.int .i64 (xk : Int), .string (str xs), .int .i64 (xn : Int), .int .i64 (xp : Int)] 71); clear b1)
    generalize w1.alloc _ = W1 at hp ⊢
    generalize w1.heap.size = q at hp ⊢
    have y0 := hp.out.cell (i := 0) rfl 0; have y1 := hp.out.cell (i := 0) rfl 1
    have c1 := hp.out.cell (i := 1) rfl 1; have c2 := hp.out.cell (i := 1) rfl 2; have f1 := hp.out.free (i := 1) rfl 1
    simp at y0 y1 c1 c2
    go_wp2
    go_ret
    exact ⟨rfl, by rw [hN2.out]; exact Pz.of h.out (hp.out.put (i := 1) rfl 1 (.int .i64 ((i : Int) + 1))) (i := 1) rfl hl⟩
  · have hN2 := Lib.hid hN
    clear hM hN hstep
    go_enter Tryd.func87, Tryd.ntmps87
    go_upto_region 2 with (go_at_call 23; (with_reducible refine cw.out.mono ?_); rintro e w1 ⟨rfl, b1⟩; replace hp := Lib.hid ((hp.out.below b1).alloc #[.int .i64 (xk : Int), .string (str xs), .int .i64 (xn : Int), .int .i64 (xp : Int)] 71); clear b1)
    generalize w1.alloc _ = W1 at hp ⊢
    generalize w1.heap.size = q at hp ⊢
    have c2 := hp.out.cell (i := 1) rfl 2
    simp at c2
    go_wp2
    go_ret
    exact ⟨rfl, by rw [hN2.out]; exact Pz.of h.out hp.out (i := 1) rfl h.out.lt⟩
  · have hN2 := Lib.hid hN
    have h1b : ((xk : Int) == (k : Int)) = false := by rw [hc1]; simp [h1]
    have n1 : ((xk : Int) != (k : Int)) = true := by rw [bne, h1b]; rfl
    have n3 : ¬ (xk : Int) = (k : Int) := by omega
    clear hM hN hstep hc1
    go_enter Tryd.func87, Tryd.ntmps87
    go_upto_region 2 with (go_at_call 23; (with_reducible refine cw.out.mono ?_); rintro e w1 ⟨rfl, b1⟩; replace hp := Lib.hid ((hp.out.below b1).alloc #[.int .i64 (xk : Int), .string (str xs), .int .i64 (xn : Int), .int .i64 (xp : Int)] 71); clear b1)
    generalize w1.alloc _ = W1 at hp ⊢
    generalize w1.heap.size = q at hp ⊢
    have y0 := hp.out.cell (i := 0) rfl 0
    have c2 := hp.out.cell (i := 1) rfl 2
    simp at c2 y0
    go_wp2
    go_ret
    exact ⟨rfl, by rw [hN2.out]; exact Pz.of h.out hp.out (i := 1) rfl h.out.lt⟩
  · have hN2 := Lib.hid hN
    subst h1
    have h2b : (xs == s) = false := by rw [hc2]; simp [h2]
    have n2 : (xs != s) = true := by rw [bne, h2b]; rfl
    have n4 : ¬ xs = s := h2
    clear hM hN hstep hc1 hc2
    go_enter Tryd.func87, Tryd.ntmps87
    go_upto_region 2 with (go_at_call 23; (with_reducible refine cw.out.mono ?_); rintro e w1 ⟨rfl, b1⟩; replace hp := Lib.hid ((hp.out.below b1).alloc #[.int .i64 (xk : Int), .string (str xs), .int .i64 (xn : Int), .int .i64 (xp : Int)] 71); clear b1)
    generalize w1.alloc _ = W1 at hp ⊢
    generalize w1.heap.size = q at hp ⊢
    have y0 := hp.out.cell (i := 0) rfl 0; have y1 := hp.out.cell (i := 0) rfl 1
    have c2 := hp.out.cell (i := 1) rfl 2
    simp at c2 y0 y1
    go_wp2
    go_ret
    exact ⟨rfl, by rw [hN2.out]; exact Pz.of h.out hp.out (i := 1) rfl h.out.lt⟩
theorem mark_any {ws : List W} {b cap g : Nat} {st : St} {w : World} (h : Pz ws b cap g st w) (s : Nm) :
    Calls Tryd.prog 59 #[pv g, .string (str s)] w (PR ws b cap g w (.bool (isM ws 4 s st)) (nextM ws 4 s st)) := by
  have c := next_any h 4 4 rfl (by decide) s
  replace c := Lib.hid c
  obtain ⟨r, hr⟩ : ∃ r, r = isM ws 4 s st := ⟨_, rfl⟩
  obtain ⟨st', hs⟩ : ∃ r, r = nextM ws 4 s st := ⟨_, rfl⟩
  rw [← hr, ← hs] at c ⊢
  clear h hr hs
  go_enter Tryd.func59, Tryd.ntmps59
  go_wp2_with (go_at_call 87; (with_reducible refine c.out.mono ?_); rintro e w1 ⟨rfl, h1, k1⟩; replace h1 := Lib.hid h1; replace k1 := Lib.hid k1)
  go_ret
  exact ⟨rfl, h1.out, k1.out⟩
theorem key_any {ws : List W} {b cap g : Nat} {st : St} {w : World} (h : Pz ws b cap g st w) (s : Nm) :
    Calls Tryd.prog 55 #[pv g, .string (str s)] w (PR ws b cap g w (.bool (isM ws 1 s st)) (nextM ws 1 s st)) := by
  have c := next_any h 1 1 rfl (by decide) s
  replace c := Lib.hid c
  obtain ⟨r, hr⟩ : ∃ r, r = isM ws 1 s st := ⟨_, rfl⟩
  obtain ⟨st', hs⟩ : ∃ r, r = nextM ws 1 s st := ⟨_, rfl⟩
  rw [← hr, ← hs] at c ⊢
  clear h hr hs
  go_enter Tryd.func55, Tryd.ntmps55
  go_wp2_with (go_at_call 87; (with_reducible refine c.out.mono ?_); rintro e w1 ⟨rfl, h1, k1⟩; replace h1 := Lib.hid h1; replace k1 := Lib.hid k1)
  go_ret
  exact ⟨rfl, h1.out, k1.out⟩
end Go.Proofs.YtgbkpkioijbgoaaDoor.qry
