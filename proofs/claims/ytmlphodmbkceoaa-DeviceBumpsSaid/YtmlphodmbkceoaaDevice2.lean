/- Keys and registers of other lengths are refused; no device is nothing: the law DeviceInput. No condition. -/
import Derived.Test.YtmlphodmbkceoaaDevice
namespace Go.Proofs.Ytmlphodmbkceoaa.disk
open Go.RowKit
attribute [local go_sem ↓] Go.wp_at_zero Go.wp_at_succ
attribute [local go_sem] str_size
set_option linter.unusedVariables false
set_option maxRecDepth 100000

section
variable {w w' : World} {d : Nat} {key reg : ByteArray} {c B g q m k : Nat} {v : Value} {st : DSt}
theorem DiskAt.keep (h : DiskAt w B g q m k v st) {X : List Nat} (kk : Keeps X w w') (hX : ∀ x, x ∈ X → x ≠ g ∧ x ≠ q ∧ x ≠ m ∧ x ≠ k ∧ v.ownBlock ≠ some x) : DiskAt w' B g q m k v st := by
  obtain ⟨D, c, h1, h2, h3, h4⟩ := h.fresh
  obtain ⟨D2, k1, k2⟩ := h.cuts
  obtain ⟨l1, l2, l3, l4⟩ := h.lt
  exact ⟨(kk.block _ l1 (fun hx => (hX _ hx).1 rfl)).trans h.blk, h.sure.keep kk (fun hx => (hX _ hx).2.1 rfl), ⟨D, c, ownsMap_of_block h1 (kk.block _ l3 (fun hx => (hX _ hx).2.2.1 rfl)), h2, h3, h4⟩, ⟨D2, ownsMap_of_block k1 (kk.block _ l4 (fun hx => (hX _ hx).2.2.2.1 rfl)), k2⟩,
    ownsRow_turn h.row (fun r hr => kk.block _ (h.rowBlock hr).2.2.2.2.2 (fun hx => (hX _ hx).2.2.2.2 hr)), h.ge, h.ne⟩
theorem dev_apart (h : DevAt w d key reg c g) (hD : DiskAt w B g q m k v st) : d ≠ g ∧ d ≠ q ∧ d ≠ m ∧ d ≠ k ∧ v.ownBlock ≠ some d := by
  obtain ⟨D, c, ⟨es, clock, hm, _⟩, _⟩ := hD.fresh
  obtain ⟨D2, ⟨es2, clock2, hk, _⟩, _⟩ := hD.cuts
  unfold DevAt at h
  refine ⟨fun e => ?_, fun e => ?_, fun e => ?_, fun e => ?_, fun e => ?_⟩
  · subst e; have := h.symm.trans hD.blk; injection this with this; injection this with _ this; exact absurd this (by decide)
  · subst e; have := h.symm.trans hD.sure; injection this with this; injection this with _ this; exact absurd this (by decide)
  · subst e; have := h.symm.trans hm; cases this
  · subst e; have := h.symm.trans hk; cases this
  · rcases hD.row.2 with ⟨rfl, _⟩ | ⟨r, cap, cur, rfl, hB, hr, _⟩
    · cases e
    · cases e; have := h.symm.trans hr; injection this with this; injection this with _ this; exact absurd this (by decide)
theorem bump_ok (h : DevAt w d key reg c g) (hD : DiskAt w B g q m k v st) (hd : st.dead = false) (ha : st.acts < 1000000) (hc : c < 1000000) (s : ByteArray) (hs : s.size = 33) :
    Calls Try.prog 53 #[.pointer (some ⟨d, 0, none⟩), .string s] w fun e w' => e = .returned (.int .i64 0) ∧ DevAt w' d key s (c + 1) g ∧ DiskAt w' B g q m k v { st with acts := st.acts + 1 } ∧ Keeps [d, g] w w' := by
  have hap := dev_apart h hD
  have hact := act_any hD hd ha
  have h1 : (s.size : Int) = 33 := by omega
  obtain ⟨d0, d1, d2, d3⟩ := h.cells
  have e1 : IntKind.u64.wrap ((c : Int) + 1) = (c : Int) + 1 := IntWalk.u64_in _ (by omega)
  have hkeep : ∀ w1, Keeps [g] w w1 → DevAt w1 d key reg c g := fun w1 kk => h.keep kk (by simp [hap.1])
  have hput : ∀ w1, Keeps [g] w w1 → DiskAt w1 B g q m k v { st with acts := st.acts + 1 } → DevAt ((w1.setCell ⟨d, 2, none⟩ (.int .u64 ((c : Int) + 1))).setCell ⟨d, 1, none⟩ (.string s)) d key s (c + 1) g ∧ DiskAt ((w1.setCell ⟨d, 2, none⟩ (.int .u64 ((c : Int) + 1))).setCell ⟨d, 1, none⟩ (.string s)) B g q m k v { st with acts := st.acts + 1 } ∧ Keeps [d, g] w ((w1.setCell ⟨d, 2, none⟩ (.int .u64 ((c : Int) + 1))).setCell ⟨d, 1, none⟩ (.string s)) := fun w1 kk hD1 => by
    have hdev := hkeep w1 kk
    have k1 : Keeps [d] w1 ((w1.setCell ⟨d, 2, none⟩ (.int .u64 ((c : Int) + 1))).setCell ⟨d, 1, none⟩ (.string s)) := ((Keeps.refl [d] w1).setCell (p := ⟨d, 2, none⟩) (Or.inl (by simp)) _).setCell (p := ⟨d, 1, none⟩) (Or.inl (by simp)) _
    exact ⟨hdev.put s (c + 1) _ (by omega), hD1.keep k1 (by intro x hx; simp at hx; subst hx; exact hap), (kk.more (by intro x hx; left; simp at hx; simp [hx])).trans (k1.more (by intro x hx; left; simp at hx; simp [hx]))⟩
  replace hact := Lib.hid hact; replace hkeep := Lib.hid hkeep; replace hput := Lib.hid hput
  clear h hD hd ha hc hs hap
  go_enter Try.func53, Try.ntmps53
  go_wp2_with (go_at_call 103; (with_reducible refine hact.out.mono ?_); rintro e w1 ⟨rfl, hD1, k1⟩; have hv := hkeep.out w1 k1; obtain ⟨x0, x1, x2, x3⟩ := hv.cells; have f1 := hv.free 1; have f2 := hv.free 2; obtain ⟨p1, p2, p3⟩ := hput.out w1 k1 hD1; replace p1 := Lib.hid p1; replace p2 := Lib.hid p2; replace p3 := Lib.hid p3; clear hv hD1 k1)
  go_outline
  go_ret
  exact ⟨rfl, p1.out, p2.out, p3.out⟩
end
def K32 : ByteArray := ⟨#[48, 49, 50, 51, 52, 53, 54, 55, 56, 57, 97, 98, 99, 100, 101, 102, 48, 49, 50, 51, 52, 53, 54, 55, 56, 57, 97, 98, 99, 100, 101, 102]⟩
theorem made_any (w : World) : Calls Try.prog 46 #[.slice none 0 0] w fun e w' => ∃ d g q m k, e = .returned (.tuple #[.pointer (some ⟨d, 0, none⟩), .pointer (some ⟨g, 0, none⟩)]) ∧ DevAt w' d K32 (str Z33) 0 g ∧ DiskAt w' w.heap.size g q m k (.slice none 0 0) (blankSt (List.replicate 2 Z512)) ∧ w.heap.size ≤ d ∧ w.heap.size ≤ g ∧ Below w.heap.size w w' := by
  have c1 : Calls Try.prog 101 #[.int .i64 2, .slice none 0 0] w fun e w' => e = .returned (.tuple #[.pointer (some ⟨w.heap.size + 1 + 1 + 1, 0, none⟩), .int .i64 0]) ∧ DiskAt w' w.heap.size (w.heap.size + 1 + 1 + 1) w.heap.size (w.heap.size + 1) (w.heap.size + 1 + 1) (.slice none 0 0) (blankSt (List.replicate 2 Z512)) ∧ Below w.heap.size w w' := new_ok 2 (by decide) (by decide) w
  have c2 : ∀ w' g, Calls Try.prog 102 #[.string ⟨#[48, 49, 50, 51, 52, 53, 54, 55, 56, 57, 97, 98, 99, 100, 101, 102, 48, 49, 50, 51, 52, 53, 54, 55, 56, 57, 97, 98, 99, 100, 101, 102]⟩, .pointer (some ⟨g, 0, none⟩)] w' fun e w2 => ∃ d, e = .returned (.tuple #[.pointer (some ⟨d, 0, none⟩), .int .i64 0]) ∧ w'.heap.size ≤ d ∧ DevAt w2 d K32 (str Z33) 0 g ∧ Below w'.heap.size w' w2 := fun w' g => dnew_ok K32 g rfl w'
  replace c1 := Lib.hid c1; replace c2 := Lib.hid c2
  go_enter Try.func46, Try.ntmps46
  go_wp2_with (first
    | (go_at_call 101; (with_reducible refine c1.out.mono ?_); rintro e w1 ⟨rfl, hD, b1⟩; replace hD := Lib.hid hD; replace b1 := Lib.hid b1)
    | (go_at_call 102; (with_reducible refine (c2.out _ _).mono ?_); rintro e w2 ⟨d, rfl, hd, hv, b2⟩; replace hd := Lib.hid hd; replace hv := Lib.hid hv; replace b2 := Lib.hid b2))
  go_outline
  go_returns
  exact ⟨_, _, _, _, _, rfl, hv.out, hD.out.below b2.out, Nat.le_trans b1.out.size hd.out, by omega, belowCont b1.out b2.out⟩
theorem dawake_any (w : World) : Calls Try.prog 48 #[] w fun e w' => e = .returned (.bool true) ∧ Below w.heap.size w w' := by
  have c1 := made_any w
  have c2 : ∀ w', Calls Try.prog 47 #[.int .u8 97] w' fun e w2 => e = .returned (.string (str (wordL 97))) ∧ Below w'.heap.size w' w2 := fun w' => word_any 97 w'
  have hw33 : (str (wordL 97)).size = 33 := by rw [str_size, wordL_len]
  have c3 : ∀ w' d g q m k, DevAt w' d K32 (str Z33) 0 g → DiskAt w' w.heap.size g q m k (.slice none 0 0) (blankSt (List.replicate 2 Z512)) → Calls Try.prog 53 #[.pointer (some ⟨d, 0, none⟩), .string (str (wordL 97))] w' fun e w2 => e = .returned (.int .i64 0) ∧ DevAt w2 d K32 (str (wordL 97)) 1 g ∧ Keeps [d, g] w' w2 := fun w' d g q m k h1 h2 => (bump_ok h1 h2 rfl (by decide) (by decide) _ hw33).mono (fun e w2 h => ⟨h.1, h.2.1, h.2.2.2⟩)
  have c4 : ∀ w' d g, DevAt w' d K32 (str (wordL 97)) 1 g → Calls Try.prog 54 #[.pointer (some ⟨d, 0, none⟩)] w' fun e w2 => e = .returned (.int .u64 1) ∧ Below w'.heap.size w' w2 := fun w' d g h => counter_any h
  have c5 : ∀ w' d g, DevAt w' d K32 (str (wordL 97)) 1 g → Calls Try.prog 49 #[.pointer (some ⟨d, 0, none⟩)] w' fun e w2 => e = .returned (.string (str (wordL 97))) ∧ Below w'.heap.size w' w2 := fun w' d g h => register_any h
  obtain ⟨W97, hW97⟩ : ∃ x, x = str (wordL 97) := ⟨_, rfl⟩
  rw [← hW97] at c2 c3 c4 c5
  have hse : (W97.toList == W97.toList) = true := by simp
  clear hW97 hw33
  replace c1 := Lib.hid c1; replace c2 := Lib.hid c2; replace c3 := Lib.hid c3; replace c4 := Lib.hid c4; replace c5 := Lib.hid c5
  go_enter Try.func48, Try.ntmps48
  go_wp2_with (first
    | (go_at_call 46; (with_reducible refine c1.out.mono ?_); rintro e w1 ⟨d, g, q, m, k, rfl, hv, hD, hdg, hgg, b1⟩; replace hD := Lib.hid hD; replace hv := Lib.hid hv; replace hdg := Lib.hid hdg; replace hgg := Lib.hid hgg; replace b1 := Lib.hid b1)
    | (go_at_call 53; (with_reducible refine (c3.out _ _ _ _ _ _ hv.out hD.out).mono ?_); rintro e w3 ⟨rfl, hv3, k3⟩; replace b1 := Lib.hid (b1.out.trans (k3.below b1.out.size (by intro x hx; simp at hx; rcases hx with rfl | rfl; exact hdg.out; exact hgg.out))); replace hv := Lib.hid hv3; clear hD hv3 k3)
    | (go_at_call 47; (with_reducible refine (c2.out _).mono ?_); rintro e w2 ⟨rfl, b2⟩; replace b1 := Lib.hid (belowCont b1.out b2); replace hv := Lib.hid (hv.out.below b2); (try replace hD := Lib.hid (hD.out.below b2)); clear b2)
    | (go_at_call 54; (with_reducible refine (c4.out _ _ _ hv.out).mono ?_); rintro e w4 ⟨rfl, b4⟩; replace b1 := Lib.hid (belowCont b1.out b4); replace hv := Lib.hid (hv.out.below b4); clear b4)
    | (go_at_call 49; (with_reducible refine (c5.out _ _ _ hv.out).mono ?_); rintro e w4 ⟨rfl, b4⟩; replace b1 := Lib.hid (belowCont b1.out b4); replace hv := Lib.hid (hv.out.below b4); clear b4))
  go_outline
  all_goals go_ret
  all_goals exact ⟨rfl, b1.out⟩
end Go.Proofs.Ytmlphodmbkceoaa.disk
