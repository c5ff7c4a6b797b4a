/- Writing a disk's block and making all sure, and which blocks alone are touched (package disk). No condition. -/
import Derived.Test.YtcdcipfojfnblaaGreatDoorMgDsk
import Derived.Test.YtcdcipfojfnblaaGreatDoorHp
namespace Go.Proofs.YtcdcipfojfnblaaGreatDoor.disk
open Go.RowKit
attribute [local go_sem ↓] Go.wp_at_zero Go.wp_at_succ
attribute [local go_sem] str_size str_append
set_option linter.unusedVariables false
set_option maxRecDepth 100000

section
variable {w w' : World} {B g q m k : Nat} {v : Value} {st : DSt}
theorem DiskAt.written_k (h : DiskAt w B g q m k v st) {v2 : Value} {w6 w8 : World} (hgrow : w.grownBy w6 v.ownBlock) (ht : (w6.setCell ⟨g, 2, none⟩ v2).mapTurned w8 m) : Keeps (g :: m :: v.ownBlock.toList) w w8 :=
  have k1 : Keeps (g :: m :: v.ownBlock.toList) w w6 := ⟨hgrow.os, hgrow.tape, hgrow.output, hgrow.size, fun k hk hx => hgrow.block k hk (fun e => hx (by rw [← e]; simp))⟩
  (k1.setCell (p := ⟨g, 2, none⟩) (Or.inl (by simp)) v2).turned (Or.inl (by simp)) ht
/-- 'append(l, n)' of a number, and where the row lies then -/
theorem wpList_append_int2 {w : World} {ops : Array Oper} {rest : List Oper} {o : Oper} {a : Act} {Q : Exit → Act → World → Prop} (hgd : o.guard = none) (s x : Operand)
    (ho : o.op = .call { callee := .builtin .append, args := #[s, x], argTypes := #[51, 51] })
    (base : Nat) (v : Value) (n : Nat) (xs : List Value) (hs : a.eval s = v) (hown : w.ownsRow base 3 1 v n xs) (g c : Nat) (z : Int) (hx : a.eval x = .slice (some ⟨g, 0, none⟩) 1 c) (hc : w.cell? ⟨g, 0, none⟩ = some (.int .i64 z))
    (hl : n < 1000000) (hbase : base ≤ w.heap.size)
    (h : ∀ v' w', w'.ownsRow base 3 1 v' (n + 1) (xs ++ [.int .i64 z]) → w.grownBy w' v.ownBlock → (∀ b, v'.ownBlock = some b → v.ownBlock = some b ∨ b = w.heap.size) → wpList Tryz.prog ops Q rest (a.put o.dst v') w') : wpList Tryz.prog ops Q (o :: rest) a w := by
  obtain ⟨i, hi, hz, hsz, hby⟩ := info_parts intInfo
  refine wpList_append_lies w hgd s x 51 ho base 3 i (.int .i64 0) 1 8 Tryz.underlying51 hi hz hsz hby rfl (by decide) v n xs hs hown ⟨g, 0, none⟩ 1 c [.int .i64 z] hx rfl ?_ ?_ (by decide) ?_ ?_ hbase w.heap.size rfl ?_
  · intro j u hj
    match j, hj with
    | 0, hj => simp at hj; subst hj; simpa [Addr.add] using hc
  · intro u hu; simp at hu; subst hu; rfl
  · unfold maxLen; omega
  · omega
  · intro g' cap w' h1 h2 h3 h4
    exact h _ w' h1 h2 (fun b hb => by cases hb; exact h3)
theorem write_first_k (h : DiskAt w B g q m k v st) (hd : st.dead = false) (ha : st.acts < 1000000) (n : Nat) (s : List UInt8) (hn : n < st.sure.length) (hl : st.sure.length ≤ 100000) (hs : s.length = 512) (hf : st.f (n : Int) = none) (hr : st.row.length < 100000) :
    Calls Tryz.prog 44 #[.pointer (some ⟨g, 0, none⟩), .int .i64 (n : Int), .string (str s)] w fun e w' => e = .returned (.int .i64 0) ∧ (∃ v2, (∀ b, v2.ownBlock = some b → v.ownBlock = some b ∨ w.heap.size ≤ b) ∧ DiskAt w' B g q m k v2 (DSt.wrote { st with acts := st.acts + 1 } n s)) ∧ Keeps (g :: m :: v.ownBlock.toList) w w' := by
  have hdead : Calls Tryz.prog 49 #[.pointer (some ⟨g, 0, none⟩)] w fun e w2 => e = .returned (.bool false) ∧ Below w.heap.size w w2 := by have := dead_any h; rw [hd] at this; exact this
  have hmay : ∀ w', Below w.heap.size w w' → Calls Tryz.prog 58 #[.pointer (some ⟨g, 0, none⟩), .int .i64 (n : Int), .string (str s)] w' fun e w2 => e = .returned (.bool true) ∧ Below w'.heap.size w' w2 := fun w' b => by
    have := may_any (h.below b) (n : Int) (str s) hl
    rw [decide_eq_true ⟨by omega, by omega, by rw [str_size]; exact hs⟩] at this
    exact this
  have hact : ∀ w', Below w.heap.size w w' → Calls Tryz.prog 40 #[.pointer (some ⟨g, 0, none⟩)] w' fun e w2 => e = .returned (.int .i64 0) ∧ DiskAt w2 B g q m k v { st with acts := st.acts + 1 } ∧ Keeps [g] w' w2 := fun w' b => act_any (h.below b) hd ha
  have hge := h.ge.1
  have hBw : B ≤ w.heap.size := Nat.le_trans h.ge.1 (Nat.le_of_lt h.lt.1)
  have hnr : -9223372036854775808 ≤ (n : Int) ∧ (n : Int) ≤ 9223372036854775807 := by omega
  have hkey := keyInt (n : Int) hnr
  replace hnr := Lib.hid hnr
  obtain ⟨ad, cap, hsh⟩ := rowShape h.row
  subst hsh
  replace hdead := Lib.hid hdead; replace hmay := Lib.hid hmay; replace hact := Lib.hid hact
  replace hr := Lib.hid hr; replace hge := Lib.hid hge; replace hBw := Lib.hid hBw
  have hf2 := Lib.hid hf
  clear h hd ha hn hl hs
  go_enter Tryz.func44, Tryz.ntmps44
  go_wp2_with (first
    | (go_at_call 49; (with_reducible refine hdead.out.mono ?_); rintro e w1 ⟨rfl, b1⟩; replace b1 := Lib.hid b1)
    | (go_at_call 58; (with_reducible refine (hmay.out _ b1.out).mono ?_); rintro e w2 ⟨rfl, b2⟩; replace b1 := Lib.hid (belowCont b1.out b2); clear b2)
    | (go_at_call 40; (with_reducible refine (hact.out _ b1.out).mono ?_); rintro e w3 ⟨rfl, hD, k3⟩; obtain ⟨d0, d1, d2, d3, d4, d5⟩ := hD.cells; obtain ⟨s0, hlk, -⟩ := hD.look (n : Int) hnr.out; rw [hf] at hlk; have hlk2 : (Instr.lookup 108 (.map (some m)) (.int .i64 (n : Int)) true).run Tryz.prog w3 = .ok (.tuple #[.agg #[.string s0], .bool false]) w3 := hlk; clear hlk; have D4 := hD.below ((Below.refl w3.heap.size w3).alloc (Nat.le_refl _) (.cells #[.string s0] 127)); obtain ⟨x0, x1, x2, x3, x4, x5⟩ := D4.cells; have f2 := D4.free 2; replace k3 := Lib.hid k3; replace hD := Lib.hid hD; replace D4 := Lib.hid D4)
    | (at_builtin; refine wpList_append_int2 rfl _ _ rfl B _ _ _ rfl (D4.out.below ((Below.refl _ _).alloc (Nat.le_refl _) _)).row _ _ _ rfl (newCell2 _ _ _ _ 0) ?ha ?hb ?_; (case ha => exact Nat.lt_trans hr.out (by decide)); (case hb => have q1 := (D4.out.lt).1; have q2 := hge.out; exact Nat.le_trans q2 (Nat.le_trans (Nat.le_of_lt q1) (by simp))); intro v2 w6 hrow2 hgrow2 hlie2; replace hlie2 := Lib.hid hlie2; obtain ⟨ad2, cap2, hsh2⟩ := rowShape hrow2; subst hsh2; have D5 := D4.out.below ((Below.refl _ _).alloc (Nat.le_refl _) (.cells #[.int .i64 (n : Int)] 3)); have hg6 := (hgrow2.block g D5.lt.1 (fun e => (D5.rowBlock e.symm).2.1 rfl)).trans D5.blk; have y1 := cell_of_row _ _ 1 _ _ _ hg6; have y2 := cell_of_row _ _ 2 _ _ _ hg6; have fz := free_of_row hg6 2; obtain ⟨D, c, q1, q2, q3, q4⟩ := D5.fresh; have hm6 := hgrow2.block m D5.lt.2.2.1 (fun e => (D5.rowBlock e.symm).2.2.2.1 rfl); have hm7 := ownsMap_of_block q1 ((Below.heap_setCell w6 ⟨g, 2, none⟩ (.slice ad2 (st.row.length + 1) cap2) m (fun e => D5.ne.2.1 e.symm)).trans hm6); replace q1 := Lib.hid q1; replace q2 := Lib.hid q2; replace q3 := Lib.hid q3; replace q4 := Lib.hid q4; replace hm7 := Lib.hid hm7; replace D5 := Lib.hid D5; replace hrow2 := Lib.hid hrow2; replace hgrow2 := Lib.hid hgrow2; clear hg6 hm6)
    | (at_mapUpdate; refine wpList_mapUpdate_in _ rfl _ _ _ 108 rfl 3 127 keyedInt Tryz.underlying108 laidElem m c D rfl hm7.out ?hroom _ _ (at_ (n : Int)) rfl rfl hkey _ [] (laidElem_mk _) ?_; (case hroom => have a1 := q2.out; have a2 := hr.out; unfold maxLen; simp at a1; omega); intro w8 hown8 hturn8; have hfin := D5.out.written q1.out q2.out q3.out q4.out (q1.out.tidy keyedInt) hrow2.out hgrow2.out hown8 hturn8; replace hfin := Lib.hid hfin; have hfk := Lib.hid (D5.out.written_k hgrow2.out hturn8); clear hown8 hturn8))
  go_outline
  go_ret
  exact ⟨rfl, ⟨_, fun b hb => (hlie2.out b hb).imp id (fun e => by rw [e]; exact Nat.le_trans b1.out.size (Nat.le_trans k3.out.size (by simp <;> omega))), hfin.out.1⟩, ((((Keeps.ofBelow b1.out _).trans (k3.out.more (by intro x hx; left; simp at hx; simp [hx]))).alloc _).alloc _).trans hfk.out⟩
theorem write_again_k (h : DiskAt w B g q m k v st) (hd : st.dead = false) (ha : st.acts < 1000000) (n : Nat) (s : List UInt8) (hn : n < st.sure.length) (hl : st.sure.length ≤ 100000) (hs : s.length = 512) (t0 : List UInt8) (hf : st.f (n : Int) = some t0) (hr : st.row.length < 100000) :
    Calls Tryz.prog 44 #[.pointer (some ⟨g, 0, none⟩), .int .i64 (n : Int), .string (str s)] w fun e w' => e = .returned (.int .i64 0) ∧ DiskAt w' B g q m k v (DSt.over { st with acts := st.acts + 1 } n s) ∧ Keeps [g, m] w w' := by
  have hdead : Calls Tryz.prog 49 #[.pointer (some ⟨g, 0, none⟩)] w fun e w2 => e = .returned (.bool false) ∧ Below w.heap.size w w2 := by have := dead_any h; rw [hd] at this; exact this
  have hmay : ∀ w', Below w.heap.size w w' → Calls Tryz.prog 58 #[.pointer (some ⟨g, 0, none⟩), .int .i64 (n : Int), .string (str s)] w' fun e w2 => e = .returned (.bool true) ∧ Below w'.heap.size w' w2 := fun w' b => by
    have := may_any (h.below b) (n : Int) (str s) hl
    rw [decide_eq_true ⟨by omega, by omega, by rw [str_size]; exact hs⟩] at this
    exact this
  have hact : ∀ w', Below w.heap.size w w' → Calls Tryz.prog 40 #[.pointer (some ⟨g, 0, none⟩)] w' fun e w2 => e = .returned (.int .i64 0) ∧ DiskAt w2 B g q m k v { st with acts := st.acts + 1 } ∧ Keeps [g] w' w2 := fun w' b => act_any (h.below b) hd ha
  have hge := h.ge.1
  have hBw : B ≤ w.heap.size := Nat.le_trans h.ge.1 (Nat.le_of_lt h.lt.1)
  have hnr : -9223372036854775808 ≤ (n : Int) ∧ (n : Int) ≤ 9223372036854775807 := by omega
  have hkey := keyInt (n : Int) hnr
  replace hnr := Lib.hid hnr
  replace hdead := Lib.hid hdead; replace hmay := Lib.hid hmay; replace hact := Lib.hid hact
  replace hr := Lib.hid hr; replace hge := Lib.hid hge; replace hBw := Lib.hid hBw
  have hf2 := Lib.hid hf
  clear h hd ha hn hl hs
  go_enter Tryz.func44, Tryz.ntmps44
  go_wp2_with (first
    | (go_at_call 49; (with_reducible refine hdead.out.mono ?_); rintro e w1 ⟨rfl, b1⟩; replace b1 := Lib.hid b1)
    | (go_at_call 58; (with_reducible refine (hmay.out _ b1.out).mono ?_); rintro e w2 ⟨rfl, b2⟩; replace b1 := Lib.hid (belowCont b1.out b2); clear b2)
    | (go_at_call 40; (with_reducible refine (hact.out _ b1.out).mono ?_); rintro e w3 ⟨rfl, hD, k3⟩; obtain ⟨d0, d1, d2, d3, d4, d5⟩ := hD.cells; obtain ⟨s0, hlk, -⟩ := hD.look (n : Int) hnr.out; rw [hf] at hlk; have hlk2 : (Instr.lookup 108 (.map (some m)) (.int .i64 (n : Int)) true).run Tryz.prog w3 = .ok (.tuple #[.agg #[.string s0], .bool true]) w3 := hlk; clear hlk; have D4 := hD.below ((Below.refl w3.heap.size w3).alloc (Nat.le_refl _) (.cells #[.string s0] 127)); obtain ⟨x0, x1, x2, x3, x4, x5⟩ := D4.cells; obtain ⟨D, c, q1, q2, q3, q4⟩ := D4.fresh; replace q1 := Lib.hid q1; replace q2 := Lib.hid q2; replace q3 := Lib.hid q3; replace q4 := Lib.hid q4; replace k3 := Lib.hid k3; replace hD := Lib.hid hD; replace D4 := Lib.hid D4)
    | (at_mapUpdate; go_loud (refine wpList_mapUpdate_in _ rfl _ _ _ 108 rfl 3 127 keyedInt Tryz.underlying108 laidElem m c D rfl q1.out ?hroom _ _ (at_ (n : Int)) rfl rfl hkey _ [] (laidElem_mk _) ?_; (case hroom => have a1 := q2.out; have a2 := hr.out; unfold maxLen; (try simp only [] at a1); omega); intro w8 hown8 hturn8; have hfin := D4.out.rewritten q1.out q2.out q3.out q4.out (by show (st.f (n : Int)).isSome = true; rw [hf2.out]; rfl) hown8 hturn8; replace hfin := Lib.hid hfin; have hfk := Lib.hid ((Keeps.refl [g, m] _).turned (Or.inl (by simp)) hturn8); clear hown8 hturn8)))
  go_ret
  exact ⟨rfl, hfin.out.1, (((Keeps.ofBelow b1.out _).trans (k3.out.more (by intro x hx; left; simp at hx; simp [hx]))).alloc _).trans hfk.out⟩
theorem write_k (h : DiskAt w B g q m k v st) (hd : st.dead = false) (ha : st.acts < 1000000) (n : Nat) (s : List UInt8) (hn : n < st.sure.length) (hl : st.sure.length ≤ 100000) (hs : s.length = 512) (hr : st.row.length < 100000) :
    Calls Tryz.prog 44 #[.pointer (some ⟨g, 0, none⟩), .int .i64 (n : Int), .string (str s)] w fun e w' => e = .returned (.int .i64 0) ∧ (∃ v2, (∀ b, v2.ownBlock = some b → v.ownBlock = some b ∨ w.heap.size ≤ b) ∧ DiskAt w' B g q m k v2 (st.wr n s)) ∧ Keeps (g :: m :: v.ownBlock.toList) w w' := by
  cases hf : st.f (n : Int) with
  | none =>
    refine (write_first_k h hd ha n s hn hl hs hf hr).mono fun e w' ⟨h1, ⟨v2, h0, h2⟩, h3⟩ => ⟨h1, ⟨v2, h0, ?_⟩, h3⟩
    have e : DSt.wrote { st with acts := st.acts + 1 } n s = st.wr n s := by unfold DSt.wrote DSt.wr; rw [hf]; rfl
    rw [← e]; exact h2
  | some t0 =>
    refine (write_again_k h hd ha n s hn hl hs t0 hf hr).mono fun e w' ⟨h1, h2, h3⟩ => ⟨h1, ⟨v, fun b hb => Or.inl hb, ?_⟩, h3.more (by intro x hx; left; simp at hx; rcases hx with rfl | rfl <;> simp)⟩
    have e : DSt.over { st with acts := st.acts + 1 } n s = st.wr n s := by unfold DSt.over DSt.wr; rw [hf]; rfl
    rw [← e]; exact h2
theorem settle_k (h : DiskAt w B g q m k v st) : Calls Tryz.prog 85 #[.pointer (some ⟨g, 0, none⟩)] w fun e w' => e = .returned (.tuple #[]) ∧ DiskAt w' B g q w.heap.size k (.slice none 0 0) st.settled ∧ Keeps [g] w w' := by
  have hmm := @run_makeMap Tryz.prog
  have hb : Below w.heap.size w (w.alloc (.map #[] 0)) := (Below.refl _ w).alloc (Nat.le_refl _) _
  have D1 := h.below hb
  obtain ⟨d0, d1, d2, d3, d4, d5⟩ := D1.cells
  have f1 := D1.free 1
  have f2 := D1.free 2
  have hm := World.ownsMap_made w Tryz.prog 3 (laidElem (H := Unit))
  have hge := h.ge.1
  have hBw : B ≤ w.heap.size := Nat.le_trans h.ge.1 (Nat.le_of_lt h.lt.1)
  have hfin : DiskAt (((w.alloc (.map #[] 0)).setCell ⟨g, 1, none⟩ (.map (some w.heap.size))).setCell ⟨g, 2, none⟩ (.slice none 0 0)) B g q w.heap.size k (.slice none 0 0) st.settled := by
    obtain ⟨D2, k1, k2⟩ := D1.cuts
    obtain ⟨l1, l2, l3, l4⟩ := h.lt
    obtain ⟨n1, n2, n3, n4, n5, n6⟩ := h.ne
    have hset : ∀ b, b ≠ g → (((w.alloc (.map #[] 0)).setCell ⟨g, 1, none⟩ (.map (some w.heap.size))).setCell ⟨g, 2, none⟩ (.slice none 0 0)).heap[b]? = (w.alloc (.map #[] 0)).heap[b]? := fun b hb => (Below.heap_setCell _ _ _ b (fun e => hb e)).trans (Below.heap_setCell _ _ _ b (fun e => hb e))
    refine ⟨?_, (hset q (Ne.symm n1)).trans D1.sure, ⟨_, 0, ownsMap_of_block hm (hset _ (by omega)), Nat.le_refl _, fun _ => rfl, fun _ _ _ h => by cases h⟩, ⟨D2, ownsMap_of_block k1 (hset k (Ne.symm n3)), k2⟩, World.ownsRow_nil _ _ _ _, ⟨h.ge.1, h.ge.2.1, hBw, h.ge.2.2.2⟩, ⟨n1, by omega, n3, by omega, n5, by omega⟩⟩
    simp [World.setCell, Array.getElem?_modify, D1.blk, DSt.settled]
  have hbel : Keeps [g] w (((w.alloc (.map #[] 0)).setCell ⟨g, 1, none⟩ (.map (some w.heap.size))).setCell ⟨g, 2, none⟩ (.slice none 0 0)) := (((Keeps.refl [g] w).alloc _).setCell (p := ⟨g, 1, none⟩) (Or.inl (by simp)) _).setCell (p := ⟨g, 2, none⟩) (Or.inl (by simp)) _
  replace hfin := Lib.hid hfin; replace hbel := Lib.hid hbel
  clear h hb D1 hm hge hBw
  go_enter Tryz.func85, Tryz.ntmps85
  go_wp2
  go_outline
  go_end0
  exact ⟨rfl, hfin.out, hbel.out⟩
end
end Go.Proofs.YtcdcipfojfnblaaGreatDoor.disk
