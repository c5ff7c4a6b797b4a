/- The document's parser of questions (lodestoneref33.P): the word it is at, one on, wrong, is, must. No condition but where the words lie. The document's parser of questions (lodestoneref33.P): is, must, names. No condition but where the words lie. Which names a question may have, as the document has it (lodestoneref33.Name). No condition. -/
import Derived.Test.YtgbkpkioijbgoaaDoorRqM
import Derived.Test.YtgbkpkioijbgoaaDoorQry9
section
namespace Go.Proofs.YtgbkpkioijbgoaaDoor.qry
open Go.RowKit
open lex (W)
open names (Nm mayN)
attribute [local go_sem ↓] Go.wp_at_zero Go.wp_at_succ
attribute [local go_sem] str_size str_bl
set_option linter.unusedVariables false
set_option linter.unusedSimpArgs false
set_option maxRecDepth 100000

theorem rp3 : (Tryd.prog.info? 76).map (·.size) = some 3 := by kernel_rfl
def rpC (b cap n : Nat) (p : Rp) : Array Value := #[.slice (some ⟨b, 0, none⟩) n cap, .int .i64 (p.at_ : Int), .int .i64 p.bad]
abbrev rpA (b cap n : Nat) (p : Rp) : Value := .agg #[.slice (some ⟨b, 0, none⟩) n cap, .int .i64 (p.at_ : Int), .int .i64 p.bad]
abbrev wA (x : W) : Value := .agg #[.int .i64 (x.kind : Int), .string (str x.s), .int .i64 (x.n : Int), .int .i64 (x.pos : Int)]
/-- the document's parser may go on from p here -/
structure Rz (ws : List W) (b : Nat) (p : Rp) (w : World) : Prop where
  wf : Wf ws
  at_ : WsAt ws b w
  lt : p.at_ < ws.length
theorem WsAt.below {ws : List W} {b : Nat} {w w' : World} (h : WsAt ws b w) (k : Below w.heap.size w w') : WsAt ws b w' :=
  ⟨Nat.lt_of_lt_of_le h.1 k.size, fun i x hx => by
    obtain ⟨h0, h1, h2, h3⟩ := h.2 i x hx
    exact ⟨(k.cell h.1).trans h0, (k.cell h.1).trans h1, (k.cell h.1).trans h2, (k.cell h.1).trans h3⟩⟩
theorem Rz.below {ws : List W} {b : Nat} {p : Rp} {w w' : World} (h : Rz ws b p w) (k : Below w.heap.size w w') : Rz ws b p w' := ⟨h.wf, h.at_.below k, h.lt⟩
theorem rnow_eq {ws : List W} {p : Rp} (h : p.at_ < ws.length) : rnow ws p = wd ws p.at_ := by unfold rnow; rw [if_pos h]
theorem rnext_lt {ws : List W} {p : Rp} (h : p.at_ < ws.length) : (rnext ws p).at_ < ws.length := by unfold rnext; split <;> assumption
theorem rwrong_at (p : Rp) (i : Int) : (rwrong p i).at_ = p.at_ := by unfold rwrong; split <;> rfl
theorem rmust_lt {ws : List W} {k : Nat} {s : Nm} {p : Rp} (h : p.at_ < ws.length) : (rmust ws k s p).at_ < ws.length := by
  unfold rmust; split
  · exact rnext_lt h
  · rw [rwrong_at]; exact h
theorem word4r : (Tryd.prog.info? 71).map (·.size) = some 4 := by kernel_rfl
set_option maxHeartbeats 2000000 in
theorem rnow_any {ws : List W} {b : Nat} {p : Rp} {w : World} (h : Rz ws b p w) (cap : Nat) :
    Calls Tryd.prog 32 #[rpA b cap ws.length p] w fun e w' => e = .returned (wA (rnow ws p)) ∧ Below w.heap.size w w' := by
  rw [rnow_eq h.lt]
  have hat : ws[p.at_]? = some (wd ws p.at_) := by unfold wd; rw [List.getD_eq_getElem?_getD, List.getElem?_eq_getElem h.lt]; rfl
  obtain ⟨x, hx⟩ : ∃ x, x = wd ws p.at_ := ⟨_, rfl⟩
  rw [← hx] at hat ⊢
  obtain ⟨d0, d1, d2, d3⟩ := h.at_.2 _ _ hat
  obtain ⟨i, bd⟩ := p
  have hlt := h.lt
  have hb := h.at_.1
  simp only at d0 d1 d2 d3 hlt ⊢
  obtain ⟨n, hn⟩ : ∃ n, n = ws.length := ⟨_, rfl⟩
  rw [← hn] at hlt ⊢
  obtain ⟨k, s, m, ps⟩ := x
  simp only at d0 d1 d2 d3 ⊢
  have e1 : (0 : Int) ≤ (i : Int) := by omega
  have e2 : (i : Int) < (n : Int) := by omega
  have hp := ((Hp.none_ w []).alloc #[.slice (some ⟨b, 0, none⟩) n cap, .int .i64 (i : Int), .int .i64 bd] 76).alloc #[.int .i64 0, .string ⟨#[]⟩, .int .i64 0, .int .i64 0] 71
  have hd := Lib.hid (show ∀ (rs : List Rs) (W' : World), Hp w [] rs W' → (W'.cell? ⟨b, i * 4, none⟩ = some (.int .i64 (k : Int)) ∧ W'.cell? ⟨b, i * 4 + 1, none⟩ = some (.string (str s)) ∧ W'.cell? ⟨b, i * 4 + 2, none⟩ = some (.int .i64 (m : Int)) ∧ W'.cell? ⟨b, i * 4 + 3, none⟩ = some (.int .i64 (ps : Int))) from fun rs W' hp => ⟨(hp.bel.cell hb).trans d0, (hp.bel.cell hb).trans d1, (hp.bel.cell hb).trans d2, (hp.bel.cell hb).trans d3⟩)
  have hsz : ∀ (u : World) o, (u.alloc o).heap.size = u.heap.size + 1 := fun u o => by simp
  rw [hsz] at hp
  clear hat hx hn hlt h hb d0 d1 d2 d3 hsz
  replace hp := Lib.hid hp
  go_enter Tryd.func32, Tryd.ntmps32
  go_upto_region 1 with fail
  generalize (w.alloc _).alloc _ = W1 at hp ⊢
  generalize w.heap.size + 1 = q2 at hp ⊢
  generalize w.heap.size = q1 at hp ⊢
  obtain ⟨d0, d1, d2, d3⟩ := hd.out _ _ hp.out
  have c0 := hp.out.cell (i := 1) rfl 0; have c1 := hp.out.cell (i := 1) rfl 1
  have y0 := hp.out.cell (i := 0) rfl 0; have y1 := hp.out.cell (i := 0) rfl 1; have y2 := hp.out.cell (i := 0) rfl 2; have y3 := hp.out.cell (i := 0) rfl 3; have f0 := hp.out.free (i := 0) rfl 0; have f1 := hp.out.free (i := 0) rfl 1; have f2 := hp.out.free (i := 0) rfl 2; have f3 := hp.out.free (i := 0) rfl 3
  simp at c0 c1 y0 y1 y2 y3
  go_wp2
  replace hp := Lib.hid ((((hp.out.put (i := 0) rfl 0 (.int .i64 (k : Int))).put (i := 0) rfl 1 (.string (str s))).put (i := 0) rfl 2 (.int .i64 (m : Int))).put (i := 0) rfl 3 (.int .i64 (ps : Int)))
  have hpg := hp.out
  exact bodyPost_ret (v := .agg #[.int .i64 (k : Int), .string (str s), .int .i64 (m : Int), .int .i64 (ps : Int)]) (results_cell_row rfl _ _ q2 71 #[.int .i64 (k : Int), .string (str s), .int .i64 (m : Int), .int .i64 (ps : Int)] (0, 0) _ rfl (hpg.box (i := 0) rfl) Tryd.underlying71 rfl word4r) rfl ⟨rfl, hpg.bel⟩
set_option maxHeartbeats 2000000 in
theorem rnext_any (ws : List W) (b cap : Nat) (p : Rp) (w : World) (hl : p.at_ < ws.length) (hn : ws.length ≤ 1001) :
    Calls Tryd.prog 29 #[rpA b cap ws.length p] w fun e w' => e = .returned (rpA b cap ws.length (rnext ws p)) ∧ Below w.heap.size w w' := by
  obtain ⟨R, hR⟩ : ∃ R, R = rnext ws p := ⟨_, rfl⟩
  rw [← hR]
  unfold rnext at hR
  obtain ⟨i, bd⟩ := p
  simp only at hR hl ⊢
  obtain ⟨n, hnn⟩ : ∃ n, n = ws.length := ⟨_, rfl⟩
  rw [← hnn] at hR hl hn ⊢
  have i3 : IntKind.i64.wrap ((i : Int) + 1) = (i : Int) + 1 := IntWalk.i64_in _ (by omega)
  have hp := ((Hp.none_ w []).alloc #[.slice (some ⟨b, 0, none⟩) n cap, .int .i64 (i : Int), .int .i64 bd] 76).alloc #[.slice none 0 0, .int .i64 0, .int .i64 0] 76
  have hsz : ∀ (u : World) o, (u.alloc o).heap.size = u.heap.size + 1 := fun u o => by simp
  rw [hsz] at hp
  clear hsz hnn
  replace hp := Lib.hid hp
  by_cases h1 : i + 1 < n
  · rw [if_pos h1] at hR
    subst hR
    have e1 : (i : Int) + 1 < (n : Int) := by omega
    clear h1
    go_enter Tryd.func29, Tryd.ntmps29
    go_upto_region 1 with fail
    generalize (w.alloc _).alloc _ = W1 at hp ⊢
    generalize w.heap.size + 1 = q2 at hp ⊢
    generalize w.heap.size = q1 at hp ⊢
    have c0 := hp.out.cell (i := 1) rfl 0; have c1 := hp.out.cell (i := 1) rfl 1; have g1 := hp.out.free (i := 1) rfl 1
    simp at c0 c1
    go_upto_region 3 with fail
    replace hp := Lib.hid (hp.out.put (i := 1) rfl 1 (.int .i64 ((i : Int) + 1)))
    clear c0 c1 g1
    generalize World.setCell _ _ _ = W2 at hp ⊢
    have c0 := hp.out.cell (i := 1) rfl 0; have c1 := hp.out.cell (i := 1) rfl 1; have c2 := hp.out.cell (i := 1) rfl 2
    have y0 := hp.out.cell (i := 0) rfl 0; have y1 := hp.out.cell (i := 0) rfl 1; have y2 := hp.out.cell (i := 0) rfl 2; have f0 := hp.out.free (i := 0) rfl 0; have f1 := hp.out.free (i := 0) rfl 1; have f2 := hp.out.free (i := 0) rfl 2
    simp at c0 c1 c2 y0 y1 y2
    go_wp2
    replace hp := Lib.hid (((hp.out.put (i := 0) rfl 0 (.slice (some ⟨b, 0, none⟩) n cap)).put (i := 0) rfl 1 (.int .i64 ((i : Int) + 1))).put (i := 0) rfl 2 (.int .i64 bd))
    have hpg := hp.out
    exact bodyPost_ret (v := .agg #[.slice (some ⟨b, 0, none⟩) n cap, .int .i64 ((i : Int) + 1), .int .i64 bd]) (results_cell_row rfl _ _ q2 76 #[.slice (some ⟨b, 0, none⟩) n cap, .int .i64 ((i : Int) + 1), .int .i64 bd] (0, 0) _ rfl (hpg.box (i := 0) rfl) Tryd.underlying76 rfl rp3) rfl ⟨rfl, hpg.bel⟩
  · rw [if_neg h1] at hR
    subst hR
    have e1 : ¬ (i : Int) + 1 < (n : Int) := by omega
    clear h1
    go_enter Tryd.func29, Tryd.ntmps29
    go_upto_region 1 with fail
    generalize (w.alloc _).alloc _ = W1 at hp ⊢
    generalize w.heap.size + 1 = q2 at hp ⊢
    generalize w.heap.size = q1 at hp ⊢
    have c0 := hp.out.cell (i := 1) rfl 0; have c1 := hp.out.cell (i := 1) rfl 1; have c2 := hp.out.cell (i := 1) rfl 2
    have y0 := hp.out.cell (i := 0) rfl 0; have y1 := hp.out.cell (i := 0) rfl 1; have y2 := hp.out.cell (i := 0) rfl 2; have f0 := hp.out.free (i := 0) rfl 0; have f1 := hp.out.free (i := 0) rfl 1; have f2 := hp.out.free (i := 0) rfl 2
    simp at c0 c1 c2 y0 y1 y2
    go_wp2
    replace hp := Lib.hid (((hp.out.put (i := 0) rfl 0 (.slice (some ⟨b, 0, none⟩) n cap)).put (i := 0) rfl 1 (.int .i64 (i : Int))).put (i := 0) rfl 2 (.int .i64 bd))
    have hpg := hp.out
    exact bodyPost_ret (v := .agg #[.slice (some ⟨b, 0, none⟩) n cap, .int .i64 (i : Int), .int .i64 bd]) (results_cell_row rfl _ _ q2 76 #[.slice (some ⟨b, 0, none⟩) n cap, .int .i64 (i : Int), .int .i64 bd] (0, 0) _ rfl (hpg.box (i := 0) rfl) Tryd.underlying76 rfl rp3) rfl ⟨rfl, hpg.bel⟩
set_option maxHeartbeats 2000000 in
theorem rwrong_any (b cap n : Nat) (p : Rp) (at0 : Int) (w : World) :
    Calls Tryd.prog 31 #[rpA b cap n p, .int .i64 at0] w fun e w' => e = .returned (rpA b cap n (rwrong p at0)) ∧ Below w.heap.size w w' := by
  obtain ⟨R, hR⟩ : ∃ R, R = rwrong p at0 := ⟨_, rfl⟩
  rw [← hR]
  unfold rwrong at hR
  obtain ⟨i, bd⟩ := p
  simp only at hR ⊢
  have hp := ((Hp.none_ w []).alloc #[.slice (some ⟨b, 0, none⟩) n cap, .int .i64 (i : Int), .int .i64 bd] 76).alloc #[.slice none 0 0, .int .i64 0, .int .i64 0] 76
  have hsz : ∀ (u : World) o, (u.alloc o).heap.size = u.heap.size + 1 := fun u o => by simp
  rw [hsz] at hp
  clear hsz
  replace hp := Lib.hid hp
  by_cases h1 : bd < 0
  · rw [if_pos h1] at hR
    subst hR
    go_enter Tryd.func31, Tryd.ntmps31
    go_upto_region 1 with fail
    generalize (w.alloc _).alloc _ = W1 at hp ⊢
    generalize w.heap.size + 1 = q2 at hp ⊢
    generalize w.heap.size = q1 at hp ⊢
    have c2 := hp.out.cell (i := 1) rfl 2; have g2 := hp.out.free (i := 1) rfl 2
    simp at c2
    go_upto_region 3 with fail
    replace hp := Lib.hid (hp.out.put (i := 1) rfl 2 (.int .i64 at0))
    clear c2 g2
    generalize World.setCell _ _ _ = W2 at hp ⊢
    have c0 := hp.out.cell (i := 1) rfl 0; have c1 := hp.out.cell (i := 1) rfl 1; have c2 := hp.out.cell (i := 1) rfl 2
    have y0 := hp.out.cell (i := 0) rfl 0; have y1 := hp.out.cell (i := 0) rfl 1; have y2 := hp.out.cell (i := 0) rfl 2; have f0 := hp.out.free (i := 0) rfl 0; have f1 := hp.out.free (i := 0) rfl 1; have f2 := hp.out.free (i := 0) rfl 2
    simp at c0 c1 c2 y0 y1 y2
    go_wp2
    replace hp := Lib.hid (((hp.out.put (i := 0) rfl 0 (.slice (some ⟨b, 0, none⟩) n cap)).put (i := 0) rfl 1 (.int .i64 (i : Int))).put (i := 0) rfl 2 (.int .i64 at0))
    have hpg := hp.out
    exact bodyPost_ret (v := .agg #[.slice (some ⟨b, 0, none⟩) n cap, .int .i64 (i : Int), .int .i64 at0]) (results_cell_row rfl _ _ q2 76 #[.slice (some ⟨b, 0, none⟩) n cap, .int .i64 (i : Int), .int .i64 at0] (0, 0) _ rfl (hpg.box (i := 0) rfl) Tryd.underlying76 rfl rp3) rfl ⟨rfl, hpg.bel⟩
  · rw [if_neg h1] at hR
    subst hR
    go_enter Tryd.func31, Tryd.ntmps31
    go_upto_region 1 with fail
    generalize (w.alloc _).alloc _ = W1 at hp ⊢
    generalize w.heap.size + 1 = q2 at hp ⊢
    generalize w.heap.size = q1 at hp ⊢
    have c0 := hp.out.cell (i := 1) rfl 0; have c1 := hp.out.cell (i := 1) rfl 1; have c2 := hp.out.cell (i := 1) rfl 2
    have y0 := hp.out.cell (i := 0) rfl 0; have y1 := hp.out.cell (i := 0) rfl 1; have y2 := hp.out.cell (i := 0) rfl 2; have f0 := hp.out.free (i := 0) rfl 0; have f1 := hp.out.free (i := 0) rfl 1; have f2 := hp.out.free (i := 0) rfl 2
    simp at c0 c1 c2 y0 y1 y2
    go_wp2
    replace hp := Lib.hid (((hp.out.put (i := 0) rfl 0 (.slice (some ⟨b, 0, none⟩) n cap)).put (i := 0) rfl 1 (.int .i64 (i : Int))).put (i := 0) rfl 2 (.int .i64 bd))
    have hpg := hp.out
    exact bodyPost_ret (v := .agg #[.slice (some ⟨b, 0, none⟩) n cap, .int .i64 (i : Int), .int .i64 bd]) (results_cell_row rfl _ _ q2 76 #[.slice (some ⟨b, 0, none⟩) n cap, .int .i64 (i : Int), .int .i64 bd] (0, 0) _ rfl (hpg.box (i := 0) rfl) Tryd.underlying76 rfl rp3) rfl ⟨rfl, hpg.bel⟩
end Go.Proofs.YtgbkpkioijbgoaaDoor.qry
end
section
namespace Go.Proofs.YtgbkpkioijbgoaaDoor.qry
open Go.RowKit
open lex (W)
open names (Nm mayN)
attribute [local go_sem ↓] Go.wp_at_zero Go.wp_at_succ
attribute [local go_sem] str_size str_bl
set_option linter.unusedVariables false
set_option linter.unusedSimpArgs false
set_option maxRecDepth 100000

theorem field_txt (W : World) (a : Int) (s : ByteArray) (c d : Int) : (Instr.field 71 (.agg #[.int .i64 a, .string s, .int .i64 c, .int .i64 d]) 1).run Tryd.prog W = .ok (.string s) W := by kernel_rfl
set_option maxHeartbeats 2000000 in
theorem ris_any {ws : List W} {b : Nat} {p : Rp} {w : World} (h : Rz ws b p w) (cap : Nat) (k : Nat) (kI : Int) (hkI : kI = (k : Int)) (s : Nm) :
    Calls Tryd.prog 27 #[rpA b cap ws.length p, .int .i64 kI, .string (str s)] w fun e w' => e = .returned (.bool (ris ws k s p)) ∧ Below w.heap.size w w' := by
  subst hkI
  have cn := fun W (hb : Below w.heap.size w W) => rnow_any (h.below hb) cap
  obtain ⟨R, hR⟩ : ∃ R, R = ris ws k s p := ⟨_, rfl⟩
  have hR2 : R = (decide (p.bad < 0) && (decide ((rnow ws p).kind = k) && decide ((rnow ws p).s = s))) := hR
  rw [← hR]
  obtain ⟨x, hx⟩ : ∃ x, x = rnow ws p := ⟨_, rfl⟩
  rw [← hx] at cn hR2
  obtain ⟨xk, xs, xn, xp⟩ := x
  obtain ⟨i, bd⟩ := p
  simp only at cn hR2 ⊢
  obtain ⟨n, hn⟩ : ∃ n, n = ws.length := ⟨_, rfl⟩
  rw [← hn] at cn ⊢
  have f0 := fun W => field_kind W (xk : Int) (str xs) (xn : Int) (xp : Int)
  have f1 := fun W => field_txt W (xk : Int) (str xs) (xn : Int) (xp : Int)
  have hp := (Hp.none_ w []).alloc #[.slice (some ⟨b, 0, none⟩) n cap, .int .i64 (i : Int), .int .i64 bd] 76
  replace hp := Lib.hid hp; replace cn := Lib.hid cn
  clear hx hR hn h
  have hc1 : ((xk : Int) == (k : Int)) = decide (xk = k) := by rw [Bool.eq_iff_iff]; simp; omega
  have hc2 : (xs == s) = decide (xs = s) := by rw [Bool.eq_iff_iff]; simp
  have key : (R = false ∧ ¬ bd < 0) ∨ (R = false ∧ bd < 0 ∧ xk ≠ k) ∨ (R = false ∧ bd < 0 ∧ xk = k ∧ xs ≠ s) ∨ (R = true ∧ bd < 0 ∧ xk = k ∧ xs = s) := by
    by_cases h0 : bd < 0
    · by_cases h1 : xk = k
      · by_cases h2 : xs = s
        · exact Or.inr (Or.inr (Or.inr ⟨by rw [hR2]; simp [h0, h1, h2], h0, h1, h2⟩))
        · exact Or.inr (Or.inr (Or.inl ⟨by rw [hR2]; simp [h0, h1, h2], h0, h1, h2⟩))
      · exact Or.inr (Or.inl ⟨by rw [hR2]; simp [h0, h1], h0, h1⟩)
    · exact Or.inl ⟨by rw [hR2]; simp [h0], h0⟩
  clear hR2
  rcases key with ⟨rfl, h0⟩ | ⟨rfl, h0, h1⟩ | ⟨rfl, h0, h1, h2⟩ | ⟨rfl, h0, h1, h2⟩
  · clear hc1 hc2
    go_enter Tryd.func27, Tryd.ntmps27
    go_upto_region 1 with fail
    generalize w.alloc _ = W1 at hp ⊢
    generalize w.heap.size = q1 at hp ⊢
    have c2 := hp.out.cell (i := 0) rfl 2
    simp at c2
    go_wp2
    go_ret
    exact ⟨rfl, hp.out.bel⟩
  · have n1 : ((xk : Int) == (k : Int)) = false := by rw [hc1]; simp [h1]
    have n3 : ¬ (xk : Int) = (k : Int) := by omega
    clear hc1 hc2
    replace h1 := Lib.hid h1
    go_enter Tryd.func27, Tryd.ntmps27
    go_upto_region 1 with fail
    generalize w.alloc _ = W1 at hp ⊢
    generalize w.heap.size = q1 at hp ⊢
    have c0 := hp.out.cell (i := 0) rfl 0; have c1 := hp.out.cell (i := 0) rfl 1; have c2 := hp.out.cell (i := 0) rfl 2
    simp at c0 c1 c2
    go_wp2_with (go_at_call 32; (with_reducible refine (cn.out _ hp.out.bel).mono ?_); rintro e w2 ⟨rfl, b2⟩; replace hp := Lib.hid (hp.out.below b2); clear b2 c0 c1 c2; have c0 := hp.out.cell (i := 0) rfl 0; have c1 := hp.out.cell (i := 0) rfl 1; have c2 := hp.out.cell (i := 0) rfl 2; simp at c0 c1 c2)
    go_ret
    exact ⟨rfl, hp.out.bel⟩
  · have n1 : ((xk : Int) == (k : Int)) = true := by rw [hc1]; simp [h1]
    have n2 : (xs == s) = false := by rw [hc2]; simp [h2]
    clear hc1 hc2
    replace h1 := Lib.hid h1; replace h2 := Lib.hid h2
    go_enter Tryd.func27, Tryd.ntmps27
    go_upto_region 1 with fail
    generalize w.alloc _ = W1 at hp ⊢
    generalize w.heap.size = q1 at hp ⊢
    have c0 := hp.out.cell (i := 0) rfl 0; have c1 := hp.out.cell (i := 0) rfl 1; have c2 := hp.out.cell (i := 0) rfl 2
    simp at c0 c1 c2
    go_wp2_with (go_at_call 32; (with_reducible refine (cn.out _ hp.out.bel).mono ?_); rintro e w2 ⟨rfl, b2⟩; replace hp := Lib.hid (hp.out.below b2); clear b2 c0 c1 c2; have c0 := hp.out.cell (i := 0) rfl 0; have c1 := hp.out.cell (i := 0) rfl 1; have c2 := hp.out.cell (i := 0) rfl 2; simp at c0 c1 c2)
    go_ret
    exact ⟨rfl, hp.out.bel⟩
  · have n1 : ((xk : Int) == (k : Int)) = true := by rw [hc1]; simp [h1]
    have n2 : (xs == s) = true := by rw [hc2]; simp [h2]
    clear hc1 hc2
    replace h1 := Lib.hid h1; replace h2 := Lib.hid h2
    go_enter Tryd.func27, Tryd.ntmps27
    go_upto_region 1 with fail
    generalize w.alloc _ = W1 at hp ⊢
    generalize w.heap.size = q1 at hp ⊢
    have c0 := hp.out.cell (i := 0) rfl 0; have c1 := hp.out.cell (i := 0) rfl 1; have c2 := hp.out.cell (i := 0) rfl 2
    simp at c0 c1 c2
    go_wp2_with (go_at_call 32; (with_reducible refine (cn.out _ hp.out.bel).mono ?_); rintro e w2 ⟨rfl, b2⟩; replace hp := Lib.hid (hp.out.below b2); clear b2 c0 c1 c2; have c0 := hp.out.cell (i := 0) rfl 0; have c1 := hp.out.cell (i := 0) rfl 1; have c2 := hp.out.cell (i := 0) rfl 2; simp at c0 c1 c2)
    go_ret
    exact ⟨rfl, hp.out.bel⟩
set_option maxHeartbeats 4000000 in
theorem rmust_any {ws : List W} {b : Nat} {p : Rp} {w : World} (h : Rz ws b p w) (cap : Nat) (k : Nat) (kI : Int) (hkI : kI = (k : Int)) (s : Nm) :
    Calls Tryd.prog 25 #[rpA b cap ws.length p, .int .i64 kI, .string (str s)] w fun e w' => e = .returned (rpA b cap ws.length (rmust ws k s p)) ∧ Below w.heap.size w w' := by
  subst hkI
  have ci := fun W (hb : Below w.heap.size w W) => ris_any (h.below hb) cap k (k : Int) rfl s
  have cn := fun W (hb : Below w.heap.size w W) => rnow_any (h.below hb) cap
  have cx := fun W => rnext_any ws b cap p W h.lt h.wf.len
  have cw := fun W => rwrong_any b cap ws.length p ((rnow ws p).pos : Int) W
  obtain ⟨R, hR⟩ : ∃ R, R = rmust ws k s p := ⟨_, rfl⟩
  rw [← hR]
  unfold rmust at hR
  obtain ⟨m, hm⟩ : ∃ m, m = ris ws k s p := ⟨_, rfl⟩
  rw [← hm] at ci hR
  obtain ⟨x, hx⟩ : ∃ x, x = rnow ws p := ⟨_, rfl⟩
  rw [← hx] at cn cw hR
  obtain ⟨xk, xs, xn, xp⟩ := x
  simp only at cn cw hR
  obtain ⟨⟨ai, ab⟩, ha⟩ : ∃ r, r = rnext ws p := ⟨_, rfl⟩
  obtain ⟨⟨bi, bb⟩, hb⟩ : ∃ r, r = rwrong p (xp : Int) := ⟨_, rfl⟩
  rw [← ha] at cx hR
  rw [← hb] at cw hR
  obtain ⟨i, bd⟩ := p
  simp only [rpA] at ci cn cx cw ⊢
  obtain ⟨n, hn⟩ : ∃ n, n = ws.length := ⟨_, rfl⟩
  rw [← hn] at ci cn cx cw ⊢
  have f3 := fun W => field_pos W (xk : Int) (str xs) (xn : Int) (xp : Int)
  have hp := ((Hp.none_ w []).alloc #[.slice (some ⟨b, 0, none⟩) n cap, .int .i64 (i : Int), .int .i64 bd] 76).alloc #[.slice none 0 0, .int .i64 0, .int .i64 0] 76
  have hsz : ∀ (u : World) o, (u.alloc o).heap.size = u.heap.size + 1 := fun u o => by simp
  rw [hsz] at hp
  clear hsz hn hm hx ha hb h
  replace hp := Lib.hid hp; replace ci := Lib.hid ci; replace cn := Lib.hid cn; replace cx := Lib.hid cx; replace cw := Lib.hid cw
  go_enter Tryd.func25, Tryd.ntmps25
  go_upto_region 1 with fail
  generalize (w.alloc _).alloc _ = W1 at hp ⊢
  generalize w.heap.size + 1 = q2 at hp ⊢
  generalize w.heap.size = q1 at hp ⊢
  have c0 := hp.out.cell (i := 1) rfl 0; have c1 := hp.out.cell (i := 1) rfl 1; have c2 := hp.out.cell (i := 1) rfl 2
  simp at c0 c1 c2
  cases m with
  | true =>
    have hf : R = ⟨ai, ab⟩ := hR
    clear hR
    subst hf
    go_upto_region 2 with (go_at_call 27; (with_reducible refine (ci.out _ hp.out.bel).mono ?_); rintro e w2 ⟨rfl, b2⟩; replace hp := Lib.hid (hp.out.below b2); clear b2 c0 c1 c2; have c0 := hp.out.cell (i := 1) rfl 0; have c1 := hp.out.cell (i := 1) rfl 1; have c2 := hp.out.cell (i := 1) rfl 2; simp at c0 c1 c2)
    go_wp2_with (go_at_call 29; (with_reducible refine (cx.out _).mono ?_); rintro e w3 ⟨rfl, b3⟩; replace hp := Lib.hid (hp.out.below b3); clear b3 c0 c1 c2; have y0 := hp.out.cell (i := 0) rfl 0; have y1 := hp.out.cell (i := 0) rfl 1; have y2 := hp.out.cell (i := 0) rfl 2; have g0 := hp.out.free (i := 0) rfl 0; have g1 := hp.out.free (i := 0) rfl 1; have g2 := hp.out.free (i := 0) rfl 2; simp at y0 y1 y2)
    replace hp := Lib.hid (((hp.out.put (i := 0) rfl 0 (.slice (some ⟨b, 0, none⟩) n cap)).put (i := 0) rfl 1 (.int .i64 (ai : Int))).put (i := 0) rfl 2 (.int .i64 ab))
    have hpg := hp.out
    exact bodyPost_ret (v := .agg #[.slice (some ⟨b, 0, none⟩) n cap, .int .i64 (ai : Int), .int .i64 ab]) (results_cell_row rfl _ _ q2 76 #[.slice (some ⟨b, 0, none⟩) n cap, .int .i64 (ai : Int), .int .i64 ab] (0, 0) _ rfl (hpg.box (i := 0) rfl) Tryd.underlying76 rfl rp3) rfl ⟨rfl, hpg.bel⟩
  | false =>
    have hf : R = ⟨bi, bb⟩ := hR
    clear hR
    subst hf
    go_upto_region 3 with (go_at_call 27; (with_reducible refine (ci.out _ hp.out.bel).mono ?_); rintro e w2 ⟨rfl, b2⟩; replace hp := Lib.hid (hp.out.below b2); clear b2)
    clear c0 c1 c2
    have hsk := Lib.hid (show ∀ (rs : List Rs) (W' : World), Hp w [] rs W' → rs[1]? = some (.box q1 #[.slice (some ⟨b, 0, none⟩) n cap, .int .i64 (i : Int), .int .i64 bd] 76) → (W'.cell? ⟨q1, 0, none⟩ = some (.slice (some ⟨b, 0, none⟩) n cap) ∧ W'.cell? ⟨q1, 1, none⟩ = some (.int .i64 (i : Int)) ∧ W'.cell? ⟨q1, 2, none⟩ = some (.int .i64 bd)) from fun rs W' h hi => ⟨(h.cell hi 0).trans rfl, (h.cell hi 1).trans rfl, (h.cell hi 2).trans rfl⟩)
    replace hp := Lib.hid hp.out.drew
    refine wp_region_noPanic ?_; refine wp_region_held_drew (S := (fun W' => W'.cell? ⟨q1, 0, none⟩ = some (.slice (some ⟨b, 0, none⟩) n cap) ∧ W'.cell? ⟨q1, 1, none⟩ = some (.int .i64 (i : Int)) ∧ W'.cell? ⟨q1, 2, none⟩ = some (.int .i64 bd))) (by kernel_rfl) ?_ (fun hHeld => ?_); (focus ((try dsimp only); (exact hsk.out _ _ hp.out rfl); done)); (refine take_t (i := 0) (d := 13) (oi := _) (v := ?_) rfl rfl (by kernel_rfl) (by kernel_rfl) (by kernel_rfl) (by rfl) ?_ (by assumption) ?_; rotate_left; (focus (intro w0 hSw; (try dsimp only at hSw); go_simp; (try with_reducible rfl); done)); try simp only [Act.put, List.setIfInBounds_toArray, List.set_cons_zero, List.set_cons_succ]); (refine take_t (i := 1) (d := 14) (oi := _) (v := ?_) rfl rfl (by kernel_rfl) (by kernel_rfl) (by kernel_rfl) (by rfl) ?_ (by assumption) ?_; rotate_left; (focus (intro w0 hSw; (try dsimp only at hSw); go_simp; (try with_reducible rfl); done)); try simp only [Act.put, List.setIfInBounds_toArray, List.set_cons_zero, List.set_cons_succ]); (refine wpAnyH_ready (rs := [2]) (by kernel_rfl) (by simp) ?_; refine AllReadyH.cons (o := _) rfl (fun K' hK => ?_) AllReadyH.nil; go_simp; (go_at_call 32; (with_reducible refine (cn.out _ hp.out.bel).mono ?_); rintro e w3 ⟨rfl, b3⟩; replace hp := Lib.hid (hp.out.below b3); clear b3); (try dsimp only); refine hK.out _ _ ?_ (fun hHeld2 => ?_); (focus ((try dsimp only); (exact hsk.out _ _ hp.out rfl); done)); clear hK K'; clear hHeld; have hHeld := hHeld2; clear hHeld2; try simp only [Act.put, List.setIfInBounds_toArray, List.set_cons_zero, List.set_cons_succ]); (refine take_t (i := 3) (d := 16) (oi := _) (v := ?_) rfl rfl (by kernel_rfl) (by kernel_rfl) (by kernel_rfl) (by rfl) ?_ (by assumption) ?_; rotate_left; (focus (intro w0 hSw; (try dsimp only at hSw); go_simp; (try with_reducible rfl); done)); try simp only [Act.put, List.setIfInBounds_toArray, List.set_cons_zero, List.set_cons_succ]); (refine wpAnyH_ready (rs := [4]) (by kernel_rfl) (by simp) ?_; refine AllReadyH.cons (o := _) rfl (fun K' hK => ?_) AllReadyH.nil; go_simp; (go_at_call 31; (with_reducible refine (cw.out _).mono ?_); rintro e w4 ⟨rfl, b4⟩; replace hp := Lib.hid (hp.out.below b4); clear b4; have y0 := hp.out.cell (i := 0) rfl 0; have y1 := hp.out.cell (i := 0) rfl 1; have y2 := hp.out.cell (i := 0) rfl 2; have g0 := hp.out.free (i := 0) rfl 0; have g1 := hp.out.free (i := 0) rfl 1; have g2 := hp.out.free (i := 0) rfl 2; simp at y0 y1 y2); (try dsimp only); refine hK.out _ _ ?_ (fun hHeld2 => ?_); (focus ((try dsimp only); (exact hsk.out _ _ hp.out rfl); done)); clear hK K'; clear hHeld; have hHeld := hHeld2; clear hHeld2; try simp only [Act.put, List.setIfInBounds_toArray, List.set_cons_zero, List.set_cons_succ]); (refine wpAnyH_ready (rs := [5]) (by kernel_rfl) (by simp) ?_; refine AllReadyH.cons (o := _) rfl (fun K' hK => ?_) AllReadyH.nil; go_simp; (replace hp := Lib.hid (((hp.out.put (i := 0) rfl 0 (.slice (some ⟨b, 0, none⟩) n cap)).put (i := 0) rfl 1 (.int .i64 (bi : Int))).put (i := 0) rfl 2 (.int .i64 bb))); (try dsimp only); refine hK.out _ _ ?_ (fun hHeld2 => ?_); (focus ((try dsimp only); (exact hsk.out _ _ hp.out rfl); done)); clear hK K'; clear hHeld; have hHeld := hHeld2; clear hHeld2; try simp only [Act.put, List.setIfInBounds_toArray, List.set_cons_zero, List.set_cons_succ]); refine wpAnyH_done (by kernel_rfl) ?_ _; refine NoPanic.normal ?_
    go_wp2
    have hpg := hp.out
    exact bodyPost_ret (v := .agg #[.slice (some ⟨b, 0, none⟩) n cap, .int .i64 (bi : Int), .int .i64 bb]) (results_cell_row rfl _ _ q2 76 #[.slice (some ⟨b, 0, none⟩) n cap, .int .i64 (bi : Int), .int .i64 bb] (0, 0) _ rfl (hpg.box (i := 0) rfl) Tryd.underlying76 rfl rp3) rfl ⟨rfl, hpg.bel⟩
end Go.Proofs.YtgbkpkioijbgoaaDoor.qry
end
section
namespace Go.Proofs.YtgbkpkioijbgoaaDoor.qry
open Go.RowKit
open lex (W)
open names (Nm mayN okC okAt mayN_all mayN_no mayN_len_no at_str)
attribute [local go_sem ↓] Go.wp_at_zero Go.wp_at_succ
attribute [local go_sem] str_size str_bl
set_option linter.unusedVariables false
set_option linter.unusedSimpArgs false
set_option maxRecDepth 100000

theorem okAt_eq (s : Nm) (i : Nat) (c : UInt8) (hc : s[i]? = some c) : okAt s i = okC c.toNat (decide (i = 0)) := by
  unfold okAt; rw [List.getD_eq_getElem?_getD, hc]; rfl
set_option maxHeartbeats 8000000 in
theorem rName_any (s : Nm) (hl : s.length ≤ 140737488355328) (w : World) : Calls Tryd.prog 70 #[.string (str s)] w fun e w' => e = .returned (.bool (mayN s && !resB s)) ∧ Below w.heap.size w w' := by
  by_cases h1 : s = []
  · subst h1
    rw [mayN_len_no (Or.inl (by simp)), Bool.false_and]
    go_enter Tryd.func70, Tryd.ntmps70
    go_wp2
    go_ret
    exact ⟨rfl, Below.refl _ _⟩
  have t1 : (s == []) = false := by simp [h1]
  have t1b : s.isEmpty = false := by simp [h1]
  obtain ⟨n, hln⟩ : ∃ n, n = s.length := ⟨_, rfl⟩
  have hsz : (str s).size = n := by rw [str_size, hln]
  by_cases h2 : 20 < s.length
  · rw [mayN_len_no (Or.inr h2), Bool.false_and]
    have t2 : (20 : Int) < (n : Int) := by omega
    clear h2 hl
    replace hln := Lib.hid hln
    go_enter Tryd.func70, Tryd.ntmps70
    go_wp2
    go_ret
    exact ⟨rfl, Below.refl _ _⟩
  have t2 : ¬ (20 : Int) < (n : Int) := by omega
  have hn20 : n ≤ 20 := by omega
  have hn1 : 1 ≤ n := by
    have : s.length ≠ 0 := fun h => h1 (List.length_eq_zero_iff.1 h)
    omega
  obtain ⟨c0, hc0⟩ : ∃ c, s[0]? = some c := ⟨_, List.getElem?_eq_getElem (by omega)⟩
  obtain ⟨S, hS⟩ : ∃ S, S = str s := ⟨_, rfl⟩
  obtain ⟨R, hR⟩ : ∃ R, R = (mayN s && !resB s) := ⟨_, rfl⟩
  rw [← hS] at hsz ⊢
  rw [← hR]
  have hps0 : 0 < S.size := by omega
  have hce0 : S[0]'hps0 = c0 := by subst hS; exact at_str s 0 c0 hc0 _
  have t1S : (S.toList == []) = false := by rw [hS, str_bl]; exact t1
  have t1Sb : S.toList.isEmpty = false := by rw [hS, str_bl]; exact t1b
  have t1Sc : ¬ S.toList = [] := by rw [hS, str_bl]; simpa using t1
  have hSl : S.toList = s := by rw [hS, str_bl]
  have ho0 := okAt_eq s 0 c0 hc0
  have hdg : (48 ≤ c0.toNat ∧ c0.toNat ≤ 57) ∨ ¬ (48 ≤ c0.toNat ∧ c0.toNat ≤ 57) := Classical.em _
  obtain ⟨q0, hq0⟩ : ∃ q, q = c0.toNat := ⟨_, rfl⟩
  rw [← hq0] at hdg ho0
  replace hln := Lib.hid hln; replace hS := Lib.hid hS; replace hR := Lib.hid hR; replace hSl := Lib.hid hSl
  have hz0 : (0 : Int) < (S.size : Int) := by omega
  clear t1 t1b h2 hl
  rcases hdg with hdg | hdg
  · have hno : mayN s = false := mayN_no 0 (by have := hln.out; omega) (by rw [ho0]; unfold okC; simp; omega)
    have hf : R = false := by rw [hR.out, hno, Bool.false_and]
    clear hR
    subst hf
    have e1 : (48 : Int) ≤ (q0 : Int) := by omega
    have e2 : (q0 : Int) ≤ 57 := by omega
    clear hdg ho0 hno
    replace h1 := Lib.hid h1
    go_enter Tryd.func70, Tryd.ntmps70
    go_wp2
    go_ret
    exact ⟨rfl, Below.refl _ _⟩
  · have hok0 : ∀ (i : Nat) (c : UInt8), s[i]? = some c → okAt s i = okC c.toNat false := fun i c hc => by
      rw [okAt_eq s i c hc]
      by_cases hi : i = 0
      · subst hi
        rw [hc0] at hc
        injection hc with hc
        subst hc
        rw [← hq0]
        unfold okC
        cases h : (decide (48 ≤ q0) && decide (q0 ≤ 57))
        · rfl
        · simp at h; omega
      · rw [decide_eq_false hi]
    replace hok0 := Lib.hid hok0
    go_enter Tryd.func70, Tryd.ntmps70
    go_upto_region 1 with fail
    go_cut [23] from 7 to 22 (fun s23 wx => s23 = .bool false ∧ w = wx)
    case first =>
      have hd2 : (q0 < 48) ∨ (48 ≤ q0 ∧ 57 < q0) := by omega
      clear hdg ho0
      replace h1 := Lib.hid h1
      rcases hd2 with h | ⟨h, h'⟩
      · have e1 : ¬ (48 : Int) ≤ (q0 : Int) := by omega
        go_wp2
        go_meet
        exact ⟨rfl, rfl⟩
      · have e1 : (48 : Int) ≤ (q0 : Int) := by omega
        have e2 : ¬ (q0 : Int) ≤ 57 := by omega
        have e3 : ¬ ((c0.toNat : Nat) : Int) ≤ 57 := by rw [← hq0]; exact e2
        go_wp2
        go_meet
        exact ⟨rfl, rfl⟩
    case rest =>
      obtain ⟨rfl, rfl⟩ := hcut
      clear hdg ho0 hce0 hps0 hq0 hc0 t1S t1Sb t1Sc hz0 t2
      replace h1 := Lib.hid h1; replace hn1 := Lib.hid hn1
      go_wp2
      go_loopg [3] n (fun kk s3 wr => ∃ i : Nat, s3 = .int .i64 (i : Int) ∧ i + kk = n ∧ (∀ j, j < i → okAt s j = true) ∧ w = wr)
      case atStart => exact ⟨0, rfl, by omega, fun j h => by omega, rfl⟩
      case round =>
        obtain ⟨i, rfl, hik, hok, rfl⟩ := hrel
        by_cases hlt : i < n
        · obtain ⟨K, rfl⟩ : ∃ K : Nat, gk = K + 1 := ⟨gk - 1, by omega⟩
          obtain ⟨c, hc⟩ : ∃ c, s[i]? = some c := ⟨_, List.getElem?_eq_getElem (by have := hln.out; omega)⟩
          have hps : i < S.size := by rw [hsz]; exact hlt
          have hce : S[i]'hps = c := by have h := hS.out; subst h; exact at_str s i c hc _
          have hoi := hok0.out i c hc
          obtain ⟨q, hq⟩ : ∃ q, q = c.toNat := ⟨_, rfl⟩
          have hcq : ((c.toNat : Nat) : Int) = (q : Int) := by rw [hq]
          rw [← hq] at hoi
          have e1 : (0 : Int) ≤ (i : Int) := by omega
          have e2 : (i : Int) < (n : Int) := by omega
          have hib : i < 20 := by omega
          have hyes : okC q false = true → ∀ j, j < i + 1 → okAt s j = true := fun h j hj => by
            by_cases hji : j < i
            · exact hok j hji
            · obtain rfl : j = i := by omega
              rw [hoi]; exact h
          have hno : okC q false = false → R = false := fun h => by
            rw [hR.out, mayN_no i (by have := hln.out; omega) (by rw [hoi]; exact h), Bool.false_and]
          clear hc hok hoi hq
          replace hyes := Lib.hid hyes; replace hno := Lib.hid hno; replace hik := Lib.hid hik
          have hcase : (q < 48) ∨ (48 ≤ q ∧ q ≤ 57) ∨ (58 ≤ q ∧ q ≤ 64) ∨ (65 ≤ q ∧ q ≤ 90) ∨ (91 ≤ q ∧ q ≤ 94) ∨ (q = 95) ∨ (q = 96) ∨ (97 ≤ q ∧ q ≤ 122) ∨ (123 ≤ q) := by omega
          rcases hcase with h | h | h | h | h | h | h | h | h
          · have f0 : ¬ (97 : Int) ≤ (q : Int) := by omega
            have f1 : ¬ (65 : Int) ≤ (q : Int) := by omega
            have f2 : ((q : Int) == 95) = false := by rw [beq_eq_false_iff_ne]; omega
            have f3 : ¬ (48 : Int) ≤ (q : Int) := by omega
            have hf := hno.out (by unfold okC; simp; omega)
            clear h hyes hno hR
            subst hf
            go_wp2
            go_ret
            exact ⟨rfl, Below.refl _ _⟩
          · have f0 : ¬ (97 : Int) ≤ (q : Int) := by omega
            have f1 : ¬ (65 : Int) ≤ (q : Int) := by omega
            have f2 : ((q : Int) == 95) = false := by rw [beq_eq_false_iff_ne]; omega
            have f3 : (48 : Int) ≤ (q : Int) := by omega
            have f4 : (q : Int) ≤ 57 := by omega
            have hy2 := Lib.hid (hyes.out (by unfold okC; simp; omega))
            clear h hyes hno
            go_wp2
            go_roundg K
            case measure => omega
            case rel => exact ⟨i + 1, by go_num, by have := hik.out; omega, hy2.out, rfl⟩
          · have f0 : ¬ (97 : Int) ≤ (q : Int) := by omega
            have f1 : ¬ (65 : Int) ≤ (q : Int) := by omega
            have f2 : ((q : Int) == 95) = false := by rw [beq_eq_false_iff_ne]; omega
            have f3 : (48 : Int) ≤ (q : Int) := by omega
            have f4 : ¬ (q : Int) ≤ 57 := by omega
            have hf := hno.out (by unfold okC; simp; omega)
            clear h hyes hno hR
            subst hf
            go_wp2
            go_ret
            exact ⟨rfl, Below.refl _ _⟩
          · have f0 : ¬ (97 : Int) ≤ (q : Int) := by omega
            have f1 : (65 : Int) ≤ (q : Int) := by omega
            have f2 : (q : Int) ≤ 90 := by omega
            have hy2 := Lib.hid (hyes.out (by unfold okC; simp; omega))
            clear h hyes hno
            go_wp2
            go_roundg K
            case measure => omega
            case rel => exact ⟨i + 1, by go_num, by have := hik.out; omega, hy2.out, rfl⟩
          · have f0 : ¬ (97 : Int) ≤ (q : Int) := by omega
            have f1 : (65 : Int) ≤ (q : Int) := by omega
            have f2 : ¬ (q : Int) ≤ 90 := by omega
            have f3 : ((q : Int) == 95) = false := by rw [beq_eq_false_iff_ne]; omega
            have f4 : (48 : Int) ≤ (q : Int) := by omega
            have f5 : ¬ (q : Int) ≤ 57 := by omega
            have hf := hno.out (by unfold okC; simp; omega)
            clear h hyes hno hR
            subst hf
            go_wp2
            go_ret
            exact ⟨rfl, Below.refl _ _⟩
          · have f0 : ¬ (97 : Int) ≤ (q : Int) := by omega
            have f1 : (65 : Int) ≤ (q : Int) := by omega
            have f2 : ¬ (q : Int) ≤ 90 := by omega
            have f3 : ((q : Int) == 95) = true := by rw [beq_iff_eq]; omega
            have hy2 := Lib.hid (hyes.out (by unfold okC; simp; omega))
            clear h hyes hno
            go_wp2
            go_roundg K
            case measure => omega
            case rel => exact ⟨i + 1, by go_num, by have := hik.out; omega, hy2.out, rfl⟩
          · have f0 : ¬ (97 : Int) ≤ (q : Int) := by omega
            have f1 : (65 : Int) ≤ (q : Int) := by omega
            have f2 : ¬ (q : Int) ≤ 90 := by omega
            have f3 : ((q : Int) == 95) = false := by rw [beq_eq_false_iff_ne]; omega
            have f4 : (48 : Int) ≤ (q : Int) := by omega
            have f5 : ¬ (q : Int) ≤ 57 := by omega
            have hf := hno.out (by unfold okC; simp; omega)
            clear h hyes hno hR
            subst hf
            go_wp2
            go_ret
            exact ⟨rfl, Below.refl _ _⟩
          · have f0 : (97 : Int) ≤ (q : Int) := by omega
            have f1 : (q : Int) ≤ 122 := by omega
            have hy2 := Lib.hid (hyes.out (by unfold okC; simp; omega))
            clear h hyes hno
            go_wp2
            go_roundg K
            case measure => omega
            case rel => exact ⟨i + 1, by go_num, by have := hik.out; omega, hy2.out, rfl⟩
          · have f0 : (97 : Int) ≤ (q : Int) := by omega
            have f1 : ¬ (q : Int) ≤ 122 := by omega
            have f2 : (65 : Int) ≤ (q : Int) := by omega
            have f3 : ¬ (q : Int) ≤ 90 := by omega
            have f4 : ((q : Int) == 95) = false := by rw [beq_eq_false_iff_ne]; omega
            have f5 : (48 : Int) ≤ (q : Int) := by omega
            have f6 : ¬ (q : Int) ≤ 57 := by omega
            have hf := hno.out (by unfold okC; simp; omega)
            clear h hyes hno hR
            subst hf
            go_wp2
            go_ret
            exact ⟨rfl, Below.refl _ _⟩
        · have hk0 : gk = 0 := by omega
          subst hk0
          obtain rfl : n = i := by omega
          have hmay : mayN s = true := mayN_all (by have := hln.out; have := hn1.out; omega) (by have := hln.out; omega) (fun j hj => hok j (by have := hln.out; omega))
          have hR2 : R = !resB s := by rw [hR.out, hmay, Bool.true_and]
          have hp := (Hp.none_ w []).rowLit #[.string ⟨#[102, 105, 110, 100]⟩, .string ⟨#[119, 104, 101, 114, 101]⟩, .string ⟨#[97, 110, 100]⟩, .string ⟨#[116, 101, 108, 108]⟩, .string ⟨#[108, 105, 109, 105, 116]⟩, .string ⟨#[110, 111, 116, 104, 105, 110, 103]⟩] 9 1 6 (by decide) rfl
          replace hp := Lib.hid hp; replace hR2 := Lib.hid hR2
          clear hok hmay hR hik hlt
          go_upto_region 10 with fail
          generalize w.alloc _ = W1 at hp ⊢
          generalize w.heap.size = q1 at hp ⊢
          go_wp2
          go_loopg [6] 6 (fun kk s6 wr => ∃ i : Nat, s6 = .int .i64 (i : Int) ∧ i + kk = 6 ∧ (∀ (j : Nat) (m : Nm), j < i → resL[j]? = some m → m ≠ s) ∧ Hp w [] [.row 9 1 (.slice (some ⟨q1, 0, none⟩) 6 6) 6 (names.nmC resL)] wr)
          case atStart => exact ⟨0, rfl, rfl, fun j m hj => by omega, hp.out⟩
          case round =>
            clear hp
            obtain ⟨i, rfl, hik, hne, hp⟩ := hrel
            by_cases hlt : i < 6
            · obtain ⟨K, rfl⟩ : ∃ K : Nat, gk = K + 1 := ⟨gk - 1, by omega⟩
              obtain ⟨m, hm⟩ : ∃ m, resL[i]? = some m := ⟨_, List.getElem?_eq_getElem hlt⟩
              obtain ⟨b5, o5, hbe, hr⟩ := (slAt (hp.sl (i := 0) rfl (by decide))).resolve_left (by decide)
              injection hbe with hbe
              injection hbe with hb1 hb2 hb3
              subst hb1 hb2
              have d0 : wr.cell? ⟨q1, 0 + i, none⟩ = some (.string (str m)) := hr.2 i _ (names.nmC_at resL i m hm)
              have d1 : wr.cell? ⟨q1, i, none⟩ = some (.string (str m)) := by rw [Nat.zero_add] at d0; exact d0
              have e1 : (0 : Int) ≤ (i : Int) := by omega
              have e2 : (i : Int) < 6 := by omega
              have hSl2 := hSl.out
              by_cases hms : m = s
              · have hf : R = false := by
                  rw [hR2.out]
                  unfold resB
                  rw [decide_eq_true (by rw [← hms]; exact List.mem_of_getElem? hm)]; rfl
                clear hR2
                subst hf
                have n1 : (m == S.toList) = true := by rw [hSl2, hms]; simp
                clear hne hm hr hSl2
                replace hms := Lib.hid hms; replace hp := Lib.hid hp
                go_wp2
                go_ret
                exact ⟨rfl, hp.out.bel⟩
              · have n1 : (m == S.toList) = false := by rw [hSl2]; simp [hms]
                have hne2 := Lib.hid (show ∀ (j : Nat) (m : Nm), j < i + 1 → resL[j]? = some m → m ≠ s from fun j y hj hy => by
                  by_cases hji : j < i
                  · exact hne j y hji hy
                  · obtain rfl : j = i := by omega
                    rw [hm] at hy; injection hy with hy; rw [← hy]; exact hms)
                clear hne hm hr hSl2
                replace hms := Lib.hid hms; replace hp := Lib.hid hp; replace hik := Lib.hid hik
                go_wp2
                go_roundg K
                case measure => omega
                case rel => exact ⟨i + 1, by go_num, by have := hik.out; omega, hne2.out, hp.out⟩
            · have hk0 : gk = 0 := by omega
              subst hk0
              obtain rfl : i = 6 := by omega
              have hf : R = true := by
                rw [hR2.out]
                unfold resB
                rw [decide_eq_false (fun hmem => by
                  obtain ⟨j, hj⟩ := List.getElem?_of_mem hmem
                  exact hne j s (List.getElem?_eq_some_iff.1 hj).1 hj rfl)]
                rfl
              clear hR2
              subst hf
              replace hp := Lib.hid hp
              clear hne hik hlt
              go_wp2
              go_ret
              exact ⟨rfl, hp.out.bel⟩
end Go.Proofs.YtgbkpkioijbgoaaDoor.qry
end
