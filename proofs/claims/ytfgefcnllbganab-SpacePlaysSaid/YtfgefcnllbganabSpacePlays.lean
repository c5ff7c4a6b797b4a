/- Whatever is taken and dropped: which places are free is the document's, and the least one is taken. No condition. -/
import Derived.Test.YtfgefcnllbganabSpace
import Derived.Test.YtfgefcnllbganabArgs
import Derived.Deep.DeepCutAuto
import Derived.Deep.CutBlock
namespace Go.Proofs.Ytfgefcnllbganab.space
open Go.RowKit
attribute [local go_sem ↓] Go.wp_at_zero Go.wp_at_succ
set_option linter.unusedVariables false

def boolCells (l : List Bool) : List Value := l.map .bool
/-- block q is a row of these truths -/
def Bools (w : World) (q : Nat) (l : List Bool) : Prop := w.heap[q]? = some (.cells (boolCells l).toArray 4 (0, 0))
section
variable {w w' : World} {q : Nat} {l : List Bool}
theorem Bools.keep (h : Bools w q l) {X : List Nat} (k : Keeps X w w') (hg : q ∉ X) : Bools w' q l := (k.block _ (block_lt h) hg).trans h
theorem Bools.below (h : Bools w q l) (k : Below w.heap.size w w') : Bools w' q l := h.keep (Keeps.ofBelow k []) (by simp)
theorem Bools.cell (h : Bools w q l) {i : Nat} (hi : i < l.length) : w.cell? ⟨q, i, none⟩ = some (.bool (l.getD i false)) := by
  rw [cell_of_row _ _ i _ _ _ h]; simp [boolCells, List.getElem?_eq_getElem hi, List.getD]
theorem Bools.free (h : Bools w q l) (i : Nat) : w.frozen? ⟨q, i, none⟩ = false := by unfold Bools at h; simp [World.frozen?, h]
theorem Bools.put (h : Bools w q l) {i : Nat} (b : Bool) : Bools (w.setCell ⟨q, i, none⟩ (.bool b)) q (l.set i b) := by
  unfold Bools at h ⊢; simp [World.setCell, Array.getElem?_modify, h, boolCells, List.map_set]
end
def inTk (l : List Bool) (x : Int) : Bool := decide (0 ≤ x) && l.getD x.toNat false

/-- how all stands: what the law's own row says of places is what the space says -/
structure Stands (w0 w : World) (g m q G N : Nat) (tk : List Bool) (le c : Nat) : Prop where
  space : SpaceAt w g m G N le (inTk tk) c
  row : Bools w q tk
  bel : Below w0.heap.size w0 w
  gq : g ≠ q
  mq : m ≠ q
  hg : w0.heap.size ≤ g
  hm : w0.heap.size ≤ m
  hq : w0.heap.size ≤ q
  len : tk.length = N
  low : ∀ i, i < G → tk.getD i false = false
  cnt : c = tk.count true
  least : G ≤ le ∧ le ≤ N ∧ ∀ i, G ≤ i → i < le → tk.getD i false = true

theorem made_bools (N : Nat) : madeCells (Value.bool false).cells N = (boolCells (List.replicate N false)).toArray := by
  apply Array.ext
  · simp [madeCells, boolCells]
  · intro i h1 h2
    have e : i % 1 = 0 := Nat.mod_one i
    simp [madeCells, boolCells, Value.cells, e]
theorem count_false (N : Nat) : (List.replicate N false).count true = 0 := by simp [List.count_replicate]
theorem stands0 {w w3 w4 : World} {G N : Nat} (hGN : G ≤ N) (hs : SpaceAt w3 (w.heap.size + 1) w.heap.size G N G (fun _ => false) 0) (b3 : Below w.heap.size w w3)
    (b4 : Below (w3.alloc (.cells (madeCells (Value.bool false).cells N) 4)).heap.size (w3.alloc (.cells (madeCells (Value.bool false).cells N) 4)) w4) :
    Stands w w4 (w.heap.size + 1) w.heap.size w3.heap.size G N (List.replicate N false) G 0 := by
  have hlt := hs.lt
  have b5 : Below w3.heap.size w3 w4 := ((Below.refl _ _).alloc (Nat.le_refl _) _).trans (b4.mono (by simp))
  have ef : inTk (List.replicate N false) = fun _ => false := by
    funext x; simp [inTk, List.getD, List.getElem?_replicate]; intro _; split <;> simp
  refine ⟨by rw [ef]; exact hs.below b5, ?_, belowCont b3 b5, by omega, by omega, by omega, by omega, b3.size, by simp, ?_, by simp [List.count_replicate], Nat.le_refl _, hGN, fun i _ _ => by omega⟩
  · have h0 := heap_alloc_new w3 (.cells (madeCells (Value.bool false).cells N) 4)
    rw [made_bools] at h0
    rw [made_bools] at b4
    exact (b4.block _ (by simp)).trans h0
  · intro i _; simp [List.getD, List.getElem?_replicate]; split <;> simp

theorem getD_set (l : List Bool) (i : Nat) (b : Bool) (hi : i < l.length) (j : Nat) : (l.set i b).getD j false = if j = i then b else l.getD j false := by
  simp only [List.getD, List.getElem?_set]
  by_cases h : i = j
  · subst h; simp [hi]
  · rw [if_neg h, if_neg (fun e => h e.symm)]
theorem inTk_set (l : List Bool) (i : Nat) (b : Bool) (hi : i < l.length) : inTk (l.set i b) = fun y => if y = (i : Int) then b else inTk l y := by
  funext y
  unfold inTk
  rw [getD_set l i b hi]
  by_cases h : y = (i : Int)
  · subst h; simp
  · rw [if_neg h]
    by_cases h0 : 0 ≤ y
    · rw [if_neg (by omega)]
    · simp [h0]
theorem count_set_true (l : List Bool) (i : Nat) (hi : i < l.length) (h : l.getD i false = false) : (l.set i true).count true = l.count true + 1 := by
  have hh : l[i] = false := by simpa [List.getD, List.getElem?_eq_getElem hi] using h
  rw [List.count_set hi]; simp [hh]
theorem count_set_false (l : List Bool) (i : Nat) (hi : i < l.length) (h : l.getD i false = true) : (l.set i false).count true = l.count true - 1 := by
  have hh : l[i] = true := by simpa [List.getD, List.getElem?_eq_getElem hi] using h
  rw [List.count_set hi]; simp [hh]
theorem inTk_nat (tk : List Bool) (X : Nat) : inTk tk (X : Int) = tk.getD X false := by simp [inTk]
section
variable {w w1 w2 : World} {g m q G N c le X : Nat} {tk : List Bool}
theorem Stands.below' (h : Stands w w1 g m q G N tk le c) (k : Below w1.heap.size w1 w2) : Stands w w2 g m q G N tk le c :=
  ⟨h.space.below k, h.row.below k, belowCont h.bel k, h.gq, h.mq, h.hg, h.hm, h.hq, h.len, h.low, h.cnt, h.least⟩
theorem Stands.put (h : Stands w w1 g m q G N tk le c) {le' c' : Nat} {b : Bool} {f' : Int → Bool} (hX : G ≤ X ∧ X < N) (hs : SpaceAt w2 g m G N le' f' c') (k : Keeps [g, m] w1 w2)
    (hf : f' = fun y => if y = (X : Int) then b else inTk tk y) (hc : c' = (tk.set X b).count true) (hl : G ≤ le' ∧ le' ≤ N ∧ ∀ i, G ≤ i → i < le' → (tk.set X b).getD i false = true) :
    Stands w (w2.setCell ⟨q, X, none⟩ (.bool b)) g m q G N (tk.set X b) le' c' := by
  have hXl : X < tk.length := by rw [h.len]; exact hX.2
  have hgm := h.space.lt
  have k2 : Keeps [q] w2 (w2.setCell ⟨q, X, none⟩ (.bool b)) := (Keeps.refl _ _).setCell (Or.inl (by simp)) _
  refine ⟨?_, ?_, ?_, h.gq, h.mq, h.hg, h.hm, h.hq, by simpa using h.len, ?_, hc, hl⟩
  · rw [inTk_set tk X b hXl, ← hf]
    exact hs.keep k2 (by simpa using h.gq) (by simpa using h.mq)
  · exact (h.row.keep k (by simp; exact ⟨fun e => h.gq e.symm, fun e => h.mq e.symm⟩)).put b
  · refine (belowKeeps h.bel k (by have := h.hg; have := h.hm; simp; omega)).setCell h.hq _
  · intro i hi
    rw [getD_set tk X b hXl, if_neg (by omega)]; exact h.low i hi
theorem Stands.full (h : Stands w w1 g m q G N tk le c) : (∀ i, G ≤ i → i < N → tk.getD i false = true) → (c : Int) = (N : Int) - G := by
  intro hall
  have hGl := h.least
  have e : tk = List.replicate (min G N) false ++ List.replicate (N - G) true := by
    apply List.ext_getElem?
    intro i
    by_cases hi : i < N
    · have hit : i < tk.length := by rw [h.len]; exact hi
      have hv : tk[i]? = some (tk.getD i false) := by simp [List.getD, List.getElem?_eq_getElem hit]
      rw [hv]
      by_cases hg : i < G
      · have hm : i < min G N := by omega
        rw [h.low i hg, List.getElem?_append, List.length_replicate, if_pos hm, List.getElem?_replicate, if_pos hm]
      · have hm : ¬ i < min G N := by omega
        rw [hall i (by omega) hi, List.getElem?_append, List.length_replicate, if_neg hm, List.getElem?_replicate, if_pos (by omega)]
    · rw [List.getElem?_eq_none (by rw [h.len]; omega), List.getElem?_eq_none (by simp; omega)]
  have := h.least
  rw [h.cnt, e]
  simp [List.count_append, List.count_replicate]
  omega
theorem Stands.notFull (h : Stands w w1 g m q G N tk le c) {x : Nat} (h1 : G ≤ x) (h2 : x < N) (h3 : tk.getD x false = false) : (c : Int) < (N : Int) - G := by
  have hx : x < tk.length := by rw [h.len]; exact h2
  have hsplit : tk.count true = (tk.take G).count true + (tk.drop G).count true := by rw [← List.count_append, List.take_append_drop]
  have hz : (tk.take G).count true = 0 := by
    rw [List.count_eq_zero]
    intro hm
    obtain ⟨i, hi, hv⟩ := List.getElem_of_mem hm
    have hi2 : i < G := by simp at hi; omega
    have := h.low i hi2
    rw [List.getElem_take] at hv
    have hil : i < tk.length := by simp at hi; omega
    simp [List.getD, List.getElem?_eq_getElem hil, hv] at this
  have hlt : (tk.drop G).count true < (tk.drop G).length := by
    apply Nat.lt_of_le_of_ne List.count_le_length
    intro e
    rw [List.count_eq_length] at e
    have hm : false ∈ tk.drop G := by
      have : (tk.drop G)[x - G]? = some false := by
        rw [List.getElem?_drop, show G + (x - G) = x by omega]
        simpa [List.getD, List.getElem?_eq_getElem hx] using h3
      exact List.mem_of_getElem? this
    have := e _ hm
    simp at this
  have := h.least
  rw [h.cnt, hsplit, hz]
  simp [h.len] at hlt
  omega
theorem Stands.cLe (h : Stands w w1 g m q G N tk le c) : (c : Int) ≤ (N : Int) - G := by
  by_cases hall : ∀ i, G ≤ i → i < N → tk.getD i false = true
  · exact Int.le_of_eq (h.full hall)
  · have : ∃ x, G ≤ x ∧ x < N ∧ tk.getD x false = false := by
      apply Classical.byContradiction
      intro hn
      apply hall
      intro i h1 h2
      cases hh : tk.getD i false
      · exact absurd ⟨i, h1, h2, hh⟩ hn
      · rfl
    obtain ⟨x, h1, h2, h3⟩ := this
    have := h.notFull h1 h2 h3
    omega
end

theorem Stands.inb {w w1 : World} {g m q G N c le : Nat} {tk : List Bool} (h : Stands w w1 g m q G N tk le c) (x : Int) : inTk tk x = (decide ((G : Int) ≤ x ∧ x < N) && tk.getD x.toNat false) := by
  by_cases h0 : (G : Int) ≤ x
  · by_cases h1 : x < N
    · simp only [h0, h1, and_self, decide_true, Bool.true_and, inTk]
      rw [decide_eq_true (show (0 : Int) ≤ x by omega)]; rfl
    · have : tk[x.toNat]? = none := List.getElem?_eq_none (by rw [h.len]; omega)
      simp [inTk, List.getD, this]
  · by_cases h2 : 0 ≤ x
    · have := h.low x.toNat (by omega)
      simp only [inTk, this]; simp
    · simp only [inTk]
      rw [decide_eq_false h2, decide_eq_false (by omega)]

set_option maxRecDepth 100000 in
set_option maxHeartbeats 4000000 in
theorem spacePlays_walk (a0 a1 : Int) (a2 : Option Addr) (len2 cap2 : Nat) (w : World) (w0 : (Lit.int .i64 a0).wf = true) (w1 : (Lit.int .i64 a1).wf = true) (w2 : SliceArg w a2 len2 2 (fun _ v => ∃ x, v = .int .i64 x ∧ (Lit.int .i64 x).wf = true)) :
    Calls Try.prog 4 #[.int .i64 a0, .int .i64 a1, .slice a2 len2 cap2] w fun e w' => e = .returned (.bool true) ∧ Below w.heap.size w w' := by
  have e1 := and_31 a0
  have e2 := and_15 a1
  obtain ⟨N, hN, hN2⟩ : ∃ N : Nat, a0 % 32 = N ∧ N < 32 := ⟨(a0 % 32).toNat, by omega, by omega⟩
  obtain ⟨F, hF, hF2⟩ : ∃ F : Nat, a1 % 16 = F ∧ F < 16 := ⟨(a1 % 16).toNat, by omega, by omega⟩
  rw [hN] at e1
  rw [hF] at e2
  clear hN hF w0 w1
  obtain ⟨G, hG⟩ : ∃ G : Nat, G = min F N := ⟨_, rfl⟩
  have q1 : min (max (F : Int) 0) (max (N : Int) 0) = G := by omega
  have q2 : max (N : Int) 0 = N := by omega
  have hnew : ∀ w', Calls Try.prog 19 #[.int .i64 N, .int .i64 F] w' fun e w2 => e = .returned (.pointer (some ⟨w'.heap.size + 1, 0, none⟩)) ∧ SpaceAt w2 (w'.heap.size + 1) w'.heap.size G N G (fun _ => false) 0 ∧ Below w'.heap.size w' w2 := fun w' => by
    have := new_any (N : Int) (F : Int) w' (by omega)
    rw [q1, q2] at this; exact this
  replace hG := Lib.hid hG
  have hbools : (Try.prog.info? 4).map (fun i => (i.zero, i.size, i.bytes)) = some (some (.bool false), 1, 1) := by kernel_rfl
  obtain ⟨ib, hib, hz0, hz1, hz2⟩ := info_parts hbools
  have hmk := fun W => run_make (P := Try.prog) W 38 4 ib (.bool false) Try.underlying38 hib hz0 .i64 .i64 N N (by omega) (by omega) (by rw [hz2]; omega) (by omega)
  rw [hz1] at hmk
  simp only [Int.toNat_natCast, Nat.mul_one] at hmk
  replace w2 := Lib.hid w2
  clear q1 q2 hbools hib hz0 hz1 hz2
  have hbb : Below w.heap.size w w := Below.refl _ _
  go_enter Try.func4, Try.ntmps4
  go_upto_if 28 with (first | (go_at_call 19; (with_reducible refine (hnew _).mono ?_); rintro e w3 ⟨rfl, hs3, b3⟩; replace hs3 := Lib.hid hs3; replace hbb := belowCont hbb b3))
  go_cut [8] from 19 (fun s8 wx => s8 = .int .i64 (G : Int) ∧ wx = w3)
  case first =>
    by_cases hFN : N < F
    · go_wp2
      go_meet
      case rel => exact ⟨by rw [show G = N by have := hG.out; omega], rfl⟩
    · go_wp2
      go_meet
      case rel => exact ⟨by rw [show G = F by have := hG.out; omega], rfl⟩
  case rest =>
    obtain ⟨rfl, rfl⟩ := hcut
    obtain ⟨wA, rfl⟩ : ∃ wA : World, wA = wc := ⟨_, rfl⟩
    go_wp2_with (first | (go_at_call 20; (with_reducible refine (awake_any _).mono ?_); rintro e w4 ⟨rfl, b4⟩))
    have hGN : G ≤ N := by have := hG.out; omega
    have hst := stands0 hGN hs3.out b3 b4
    clear hs3 b3 b4 hbb hnew hmk
    go_loopg [11, 12] (min len2 80) (fun k s11 s12 wr => ∃ (i c le : Nat) (tk : List Bool), s11 = .int .i64 (c : Int) ∧ s12 = .int .i64 (i : Int) ∧ i + k = min len2 80 ∧ Stands w wr (w.heap.size + 1) w.heap.size wA.heap.size G N tk le c)
    case atStart => exact ⟨0, 0, G, _, rfl, rfl, by omega, hst⟩
    case round =>
      clear hst
      obtain ⟨i, c, le, tk, rfl, rfl, hik, hst⟩ := hrel
      replace hst := Lib.hid hst
      by_cases hi : i < len2 ∧ i < 80
      · obtain ⟨hi1, hi2⟩ := hi
        obtain ⟨hw1, hw2⟩ := w2.out
        obtain ⟨b, off, rfl, hlt, hcells⟩ := hw2.resolve_left (by omega)
        obtain ⟨v0, hv0, x0, rfl, hx0⟩ := hcells i hi1 0 (by omega)
        obtain ⟨v1, hv1, x1, rfl, hx1⟩ := hcells i hi1 1 (by omega)
        have d0 : wr.cell? ⟨b, off + i * 2, none⟩ = some (.int .i64 x0) := (hst.out.bel.cell (p := ⟨b, off + i * 2 + 0, none⟩) hlt).trans hv0
        have d1 := (hst.out.bel.cell (p := ⟨b, off + i * 2 + 1, none⟩) hlt).trans hv1
        clear hcells hw2 hv0 hv1
        have hand := and_3 x0
        obtain ⟨S, hS, hS4⟩ : ∃ S : Nat, x0 % 4 = S ∧ S < 4 := ⟨(x0 % 4).toNat, by omega, by omega⟩
        rw [hS] at hand
        clear hS hx0
        have rx := of_wf_i64 hx1
        clear hx1
        go_upto_region 12 with fail
        go_cut [14] (fun s14 wx => ∃ inb : Bool, s14 = .bool inb ∧ inb = decide ((G : Int) ≤ x1 ∧ x1 < N) ∧ wr = wx)
        case first =>
          by_cases ha : (G : Int) ≤ x1
          · have e : decide (x1 < (N : Int)) = decide ((G : Int) ≤ x1 ∧ x1 < N) := by simp [ha]
            replace e := Lib.hid e
            go_wp2
            go_meet
            case rel => exact ⟨_, rfl, e.out, rfl⟩
          · have e : false = decide ((G : Int) ≤ x1 ∧ x1 < N) := by simp; omega
            replace e := Lib.hid e
            go_wp2
            go_meet
            case rel => exact ⟨_, rfl, e.out, rfl⟩
        case rest =>
          obtain ⟨inb, rfl, hinb, rfl⟩ := hcut
          replace hinb := Lib.hid hinb
          go_upto_block 2 with fail
          go_cut [11] (fun s11 wx => ∃ (c' le' : Nat) (tk' : List Bool), s11 = .int .i64 (c' : Int) ∧ Stands w wx (w.heap.size + 1) w.heap.size wA.heap.size G N tk' le' c')
          case first =>
            have hcl := hst.out.cLe
            have hfa : inTk tk x1 = (inb && tk.getD x1.toNat false) := by
              rw [hinb.out]; exact hst.out.inb x1
            have hcf : inb = true → ∃ X : Nat, x1 = X ∧ X < tk.length ∧ G ≤ X ∧ X < N := by
              intro e; rw [hinb.out] at e; simp at e; exact ⟨x1.toNat, by omega, by rw [hst.out.len]; omega, by omega, by omega⟩
            have hno : inb = false → x1 < G ∨ (N : Int) ≤ x1 ∨ inTk tk x1 = true := by
              intro e; rw [hinb.out] at e; simp at e; omega
            replace hik := Lib.hid hik
            have hS : S = 2 ∨ S = 3 ∨ (((S : Int) == 2) = false ∧ ((S : Int) == 3) = false) := by
              by_cases h2 : S = 2
              · exact Or.inl h2
              · by_cases h3 : S = 3
                · exact Or.inr (Or.inl h3)
                · exact Or.inr (Or.inr ⟨by simp; omega, by simp; omega⟩)
            rcases hS with rfl | rfl | ⟨hS2, hS3⟩
            · cases inb
              · have hu := use_no x1 rx wr hst.out.space (hno rfl)
                clear hcf hno hfa
                go_wp2_with (first | (go_at_call 21; (with_reducible refine hu.mono ?_); rintro e w5 ⟨rfl, b5⟩))
                go_meet
                case rel => exact ⟨c, le, tk, rfl, hst.out.below' b5⟩
              · obtain ⟨X, rfl, hXl, hX1, hX2⟩ := hcf rfl
                clear hcf hno
                simp only [Bool.true_and, Int.toNat_natCast] at hfa
                have hcell := hst.out.row.cell hXl
                have hfz := hst.out.row.free X
                have hX0 : (0 : Int) ≤ X := by omega
                have hXN : (X : Int) < N := by omega
                replace hXl := Lib.hid hXl
                replace hX1 := Lib.hid hX1
                replace hX2 := Lib.hid hX2
                cases htv : tk.getD X false
                · rw [htv] at hcell hfa
                  have hu := use_yes (X : Int) rx wr hst.out.space (by have := hX1.out; omega) (by omega) hfa (by omega)
                  have hlt0 := hst.out.space.lt
                  replace htv := Lib.hid htv
                  replace hfa := Lib.hid hfa
                  go_wp2_with (first | (go_at_call 21; (with_reducible refine hu.mono ?_); rintro e w5 ⟨rfl, hs5, k5⟩; have hr5 := hst.out.row.keep k5 (by have := hst.out.gq; have := hst.out.mq; simp; omega); have hc5 := hr5.cell hXl.out; have hf5 := hr5.free X; rw [htv.out] at hc5; replace hr5 := Lib.hid hr5; replace hs5 := Lib.hid hs5; replace k5 := Lib.hid k5))
                  go_meet
                  case rel => exact ⟨c + 1, le, tk.set X true, by go_num, hst.out.put ⟨hX1.out, hX2.out⟩ hs5.out k5.out (by funext y; by_cases h : y = (X : Int) <;> simp [h]) (by rw [count_set_true tk X hXl.out htv.out, hst.out.cnt]) ⟨hst.out.least.1, hst.out.least.2.1, fun i h1 h2 => by rw [getD_set tk X true hXl.out]; split; rfl; exact hst.out.least.2.2 i h1 h2⟩⟩
                · rw [htv] at hcell hfa
                  have hu := use_no (X : Int) rx wr hst.out.space (Or.inr (Or.inr hfa))
                  replace htv := Lib.hid htv
                  replace hfa := Lib.hid hfa
                  go_wp2_with (first | (go_at_call 21; (with_reducible refine hu.mono ?_); rintro e w5 ⟨rfl, b5⟩))
                  go_meet
                  case rel => exact ⟨c, le, tk, rfl, hst.out.below' b5⟩
            · cases inb
              · have hu := drop_no x1 rx wr hst.out.space (by rw [hfa]; rfl)
                clear hcf hno hfa
                go_wp2_with (first | (go_at_call 22; (with_reducible refine hu.mono ?_); rintro e w5 ⟨rfl, b5⟩))
                go_meet
                case rel => exact ⟨c, le, tk, rfl, hst.out.below' b5⟩
              · obtain ⟨X, rfl, hXl, hX1, hX2⟩ := hcf rfl
                clear hcf hno
                simp only [Bool.true_and, Int.toNat_natCast] at hfa
                have hcell := hst.out.row.cell hXl
                have hX0 : (0 : Int) ≤ X := by omega
                have hXN : (X : Int) < N := by omega
                replace hXl := Lib.hid hXl
                replace hX1 := Lib.hid hX1
                replace hX2 := Lib.hid hX2
                cases htv : tk.getD X false
                · rw [htv] at hcell hfa
                  have hu := drop_no (X : Int) rx wr hst.out.space hfa
                  replace htv := Lib.hid htv
                  replace hfa := Lib.hid hfa
                  go_wp2_with (first | (go_at_call 22; (with_reducible refine hu.mono ?_); rintro e w5 ⟨rfl, b5⟩))
                  go_meet
                  case rel => exact ⟨c, le, tk, rfl, hst.out.below' b5⟩
                · rw [htv] at hcell hfa
                  have hu := drop_yes (X : Int) rx wr hst.out.space hfa
                  have hc1 : 1 ≤ c := by
                    rw [hst.out.cnt]
                    have hm : true ∈ tk := by
                      have : tk[X]? = some true := by
                        have := hXl.out
                        simpa [List.getD, List.getElem?_eq_getElem this] using htv
                      exact List.mem_of_getElem? this
                    exact List.count_pos_iff.2 hm
                  replace htv := Lib.hid htv
                  replace hfa := Lib.hid hfa
                  go_wp2_with (first | (go_at_call 22; (with_reducible refine hu.mono ?_); rintro e w5 ⟨rfl, hs5, k5⟩; have hr5 := hst.out.row.keep k5 (by have := hst.out.gq; have := hst.out.mq; simp; omega); have hc5 := hr5.cell hXl.out; have hf5 := hr5.free X; rw [htv.out] at hc5; replace hr5 := Lib.hid hr5; replace hs5 := Lib.hid hs5; replace k5 := Lib.hid k5))
                  go_meet
                  case rel =>
                    have em : ((min le X : Nat) : Int) = min (le : Int) X := by omega
                    refine ⟨c - 1, min le X, tk.set X false, by congr 1; omega, hst.out.put ⟨hX1.out, hX2.out⟩ (by rw [em]; exact hs5.out) k5.out (by funext y; by_cases h : y = (X : Int) <;> simp [h]) (by rw [count_set_false tk X hXl.out htv.out, hst.out.cnt]) ⟨by have := hst.out.least; have := hX1.out; omega, by have := hst.out.least; omega, fun i h1 h2 => ?_⟩⟩
                    rw [getD_set tk X false hXl.out, if_neg (by omega)]; exact hst.out.least.2.2 i h1 (by omega)
            · clear hcf hno hfa
              have hGN' : (G : Int) ≤ N := by omega
              have hlt0 := hst.out.space.lt
              have hgq := hst.out.gq
              have hmq := hst.out.mq
              go_wp2_with fail
              go_loopg [17, 18] (N - G) (fun gn s17 s18 wx => wr = wx ∧ ∃ k : Int, s18 = .int .i64 k ∧ (G : Int) - 1 ≤ k ∧ k < N ∧ gn = (k + 1 - G).toNat ∧
                ((s17 = .int .i64 (-1) ∧ ∀ j : Nat, k < j → j < N → tk.getD j false = true) ∨ ∃ x : Nat, s17 = .int .i64 (x : Int) ∧ k < x ∧ x < N ∧ tk.getD x false = false ∧ ∀ j : Nat, k < j → j < x → tk.getD j false = true))
              case atStart => exact ⟨rfl, (N : Int) - 1, rfl, by omega, by omega, by omega, Or.inl ⟨rfl, fun j h1 h2 => by omega⟩⟩
              case round =>
                obtain ⟨rfl, k, rfl, hk1, hk2, hgn, hw⟩ := hrel
                by_cases hkG : (G : Int) ≤ k
                · obtain ⟨K, rfl⟩ : ∃ K : Nat, (K : Int) = k := ⟨k.toNat, by omega⟩
                  have hKl : K < tk.length := by rw [hst.out.len]; omega
                  have hcell := hst.out.row.cell hKl
                  cases htv : tk.getD K false
                  · rw [htv] at hcell
                    replace htv := Lib.hid htv
                    replace hgn := Lib.hid hgn
                    replace hw := Lib.hid hw
                    go_wp2
                    go_roundg (K - G)
                    case measure => have := hgn.out; omega
                    case rel => exact ⟨rfl, (K : Int) - 1, rfl, by omega, by omega, by omega, Or.inr ⟨K, rfl, by omega, by omega, htv.out, fun j h1 h2 => by omega⟩⟩
                  · rw [htv] at hcell
                    replace htv := Lib.hid htv
                    replace hgn := Lib.hid hgn
                    replace hw := Lib.hid hw
                    go_wp2
                    go_roundg (K - G)
                    case measure => have := hgn.out; omega
                    case rel =>
                      refine ⟨rfl, (K : Int) - 1, rfl, by omega, by omega, by omega, ?_⟩
                      rcases hw.out with ⟨e1, e2⟩ | ⟨x, e1, e2, e3, e4, e5⟩
                      · refine Or.inl ⟨e1, fun j h1 h2 => ?_⟩
                        by_cases h : j = K
                        · subst h; exact htv.out
                        · exact e2 j (by omega) h2
                      · refine Or.inr ⟨x, e1, by omega, e3, e4, fun j h1 h2 => ?_⟩
                        by_cases h : j = K
                        · subst h; exact htv.out
                        · exact e5 j (by omega) h2
                · rcases hw with ⟨rfl, hall⟩ | ⟨x, rfl, e2, e3, e4, e5⟩
                  · have hfull := hst.out.full (fun j h1 h2 => hall j (by omega) h2)
                    have ht := take_full wr hst.out.space (by omega) (by omega) (by omega) hfull
                    clear hall hgn hfull
                    go_wp2_with (first | (go_at_call 23; (with_reducible refine ht.mono ?_); rintro e w5 ⟨rfl, b5⟩))
                    go_meet
                    case rel => exact ⟨c, le, tk, rfl, hst.out.below' b5⟩
                  · have hxl : x < tk.length := by rw [hst.out.len]; exact e3
                    have hlx : le ≤ x := by
                      apply Classical.byContradiction
                      intro hn
                      have := hst.out.least.2.2 x (by omega) (by omega)
                      rw [e4] at this; cases this
                    have ht := take_least wr (x := (x : Int)) hst.out.space (by omega) (by omega) (by omega) (hst.out.notFull (by omega) e3 e4) (by have := hst.out.least; omega) (by omega) (by omega) (by rw [inTk_nat]; exact e4) (fun y h1 h2 => by
                      obtain ⟨Y, rfl⟩ : ∃ Y : Nat, (Y : Int) = y := ⟨y.toNat, by omega⟩
                      rw [inTk_nat]; exact e5 Y (by omega) (by omega))
                    have hx0 : (0 : Int) ≤ x := by omega
                    have hxN : (x : Int) < N := by omega
                    have hGx : G ≤ x := by omega
                    replace hxl := Lib.hid hxl
                    replace e4 := Lib.hid e4
                    replace e5 := Lib.hid e5
                    replace hGx := Lib.hid hGx
                    replace hlx := Lib.hid hlx
                    clear hgn
                    go_wp2_with (first | (go_at_call 23; (with_reducible refine ht.mono ?_); rintro e w5 ⟨rfl, hs5, k5⟩; have hr5 := hst.out.row.keep k5 (by simp; omega); have hc5 := hr5.cell hxl.out; have hf5 := hr5.free x; rw [e4.out] at hc5; replace hr5 := Lib.hid hr5; replace hs5 := Lib.hid hs5; replace k5 := Lib.hid k5))
                    go_meet
                    case rel =>
                      refine ⟨c + 1, x, tk.set x true, by go_num, hst.out.put ⟨hGx.out, e3⟩ hs5.out k5.out (by funext y; by_cases h : y = (x : Int) <;> simp [h]) (by rw [count_set_true tk x hxl.out e4.out, hst.out.cnt]) ⟨hGx.out, by omega, fun j h1 h2 => ?_⟩⟩
                      rw [getD_set tk x true hxl.out, if_neg (by omega)]; exact e5.out j (by omega) h2
          case rest =>
            clear hst
            obtain ⟨c', le', tk', rfl, hst⟩ := hcut
            have hcl := hst.cLe
            have rm := many_any wc hst.space
            have d5 : IntKind.i64.wrap ((N : Int) - G) = (N : Int) - G := IntWalk.i64_in _ (by omega)
            have d6 : IntKind.i64.wrap ((N : Int) - G - c') = (N : Int) - G - c' := IntWalk.i64_in _ (by omega)
            have hfa : inTk tk' x1 = (inb && tk'.getD x1.toNat false) := by
              rw [hinb.out]; exact hst.inb x1
            have hcf : inb = true → ∃ X : Nat, x1 = X ∧ X < tk'.length := by
              intro e; rw [hinb.out] at e; simp at e; exact ⟨x1.toNat, by omega, by rw [hst.len]; omega⟩
            replace hst := Lib.hid hst
            replace hik := Lib.hid hik
            cases inb
            · simp only [Bool.false_and] at hfa
              clear hcf
              go_wp2_with (first | (go_at_call 24; (with_reducible refine rm.mono ?_); rintro e w6 ⟨rfl, b6⟩; have st6 := Lib.hid (hst.out.below' b6); have rf6 := free_any w6 st6.out.space (by omega) (by omega) (by omega) hcl) | (go_at_call 25; (with_reducible refine rf6.mono ?_); rintro e w7 ⟨rfl, b7⟩; have st7 := Lib.hid (st6.out.below' b7); have rt7 := taken_any x1 rx w7 st7.out.space; rw [hfa] at rt7) | (go_at_call 26; (with_reducible refine rt7.mono ?_); rintro e w8 ⟨rfl, b8⟩; have st8 := Lib.hid (st7.out.below' b8)))
              go_roundg (gk - 1)
              case measure => have := hik.out; omega
              case rel => exact ⟨i + 1, c', le', tk', rfl, by go_num, by have := hik.out; omega, st8.out⟩
            · obtain ⟨X, rfl, hXl⟩ := hcf rfl
              clear hcf
              simp only [Bool.true_and, Int.toNat_natCast] at hfa
              have hX0 : (0 : Int) ≤ X := by omega
              have hXN : (X : Int) < N := by have := hst.out.len; omega
              replace hXl := Lib.hid hXl
              generalize htv : tk'.getD X false = tv at hfa
              replace htv := Lib.hid htv
              go_wp2_with (first | (go_at_call 24; (with_reducible refine rm.mono ?_); rintro e w6 ⟨rfl, b6⟩; have st6 := Lib.hid (hst.out.below' b6); have rf6 := free_any w6 st6.out.space (by omega) (by omega) (by omega) hcl) | (go_at_call 25; (with_reducible refine rf6.mono ?_); rintro e w7 ⟨rfl, b7⟩; have st7 := Lib.hid (st6.out.below' b7); have rt7 := taken_any (X : Int) rx w7 st7.out.space; rw [hfa] at rt7) | (go_at_call 26; (with_reducible refine rt7.mono ?_); rintro e w8 ⟨rfl, b8⟩; have st8 := Lib.hid (st7.out.below' b8); have hc8 := st8.out.row.cell hXl.out; rw [htv.out] at hc8))

              go_roundg (gk - 1)
              case measure => have := hik.out; omega
              case rel => exact ⟨i + 1, c', le', tk', rfl, by go_num, by have := hik.out; omega, st8.out⟩
      · by_cases h : i < len2
        · have h2 : ¬ i < 80 := by omega
          clear hi hik
          go_wp2
          go_ret
          exact ⟨rfl, hst.out.bel⟩
        · clear hi hik
          go_wp2
          go_ret
          exact ⟨rfl, hst.out.bel⟩
end Go.Proofs.Ytfgefcnllbganab.space
