/- Writing a disk's block, and the failing of its power, where no cut is planned (package disk). No condition. -/
import Derived.Test.YtdhboldmffiklabDevice2
namespace Go.Proofs.Ytdhboldmffiklab.disk
open Go.RowKit
attribute [local go_sem ↓] Go.wp_at_zero Go.wp_at_succ
attribute [local go_sem] str_size
set_option linter.unusedVariables false
set_option maxRecDepth 100000

section
variable {w w' : World} {B g q m k : Nat} {v : Value} {st : DSt}
theorem newCell2 (w : World) (o : Obj) (cs : Array Value) (t : TypeId) (i : Nat) : ((w.alloc o).alloc (.cells cs t)).cell? ⟨w.heap.size + 1, i, none⟩ = cs[i]? := by
  have := newCell (w.alloc o) cs t i
  simp at this ⊢
  try exact this
theorem free_of_row {w : World} {g : Nat} {cs : Array Value} {t : TypeId} (h : w.heap[g]? = some (.cells cs t (0, 0))) (i : Nat) : w.frozen? ⟨g, i, none⟩ = false := by simp [World.frozen?, h]
theorem intInfo : (Try.prog.info? 3).map (fun i => (i.zero, i.size, i.bytes)) = some (some (.int .i64 0), 1, 8) := by kernel_rfl
/-- 'append(l, n)' of a number -/
theorem wpList_append_int {w : World} {ops : Array Oper} {rest : List Oper} {o : Oper} {a : Act} {Q : Exit → Act → World → Prop} (hgd : o.guard = none) (s x : Operand)
    (ho : o.op = .call { callee := .builtin .append, args := #[s, x], argTypes := #[77, 77] })
    (base : Nat) (v : Value) (n : Nat) (xs : List Value) (hs : a.eval s = v) (hown : w.ownsRow base 3 1 v n xs) (g c : Nat) (z : Int) (hx : a.eval x = .slice (some ⟨g, 0, none⟩) 1 c) (hc : w.cell? ⟨g, 0, none⟩ = some (.int .i64 z))
    (hl : n < 1000000) (hbase : base ≤ w.heap.size)
    (h : ∀ v' w', w'.ownsRow base 3 1 v' (n + 1) (xs ++ [.int .i64 z]) → w.grownBy w' v.ownBlock → wpList Try.prog ops Q rest (a.put o.dst v') w') : wpList Try.prog ops Q (o :: rest) a w := by
  obtain ⟨i, hi, hz, hsz, hby⟩ := info_parts intInfo
  refine wpList_append_own w hgd s x 77 ho base 3 i (.int .i64 0) 1 8 Try.underlying77 hi hz hsz hby rfl (by decide) v n xs hs hown ⟨g, 0, none⟩ 1 c [.int .i64 z] hx rfl ?_ ?_ ?_ ?_ hbase ?_
  · intro j u hj
    match j, hj with
    | 0, hj => simp at hj; subst hj; simpa [Addr.add] using hc
  · intro u hu; simp at hu; subst hu; rfl
  · unfold maxLen; omega
  · omega
  · intro v' w' h1 h2 _
    exact h v' w' h1 h2
def DSt.wrote (st : DSt) (n : Nat) (s : List UInt8) : DSt := ⟨st.sure, fun x => if x = (n : Int) then some s else st.f x, st.row ++ [n], st.acts, st.dead⟩
theorem DiskAt.written (h : DiskAt w B g q m k v st) {v2 : Value} {w6 w8 : World} {D : DataW Unit} {c : Nat} {n : Nat} {s : List UInt8} (h1 : w.ownsMap Try.prog 3 laidElem m c D) (h2 : c ≤ st.row.length) (h3 : ∀ x, Maps.has D (at_ x) = (st.f x).isSome) (h4 : ∀ x t z, st.f x = some t → D.atKey (at_ x) z = .lit (.string t))
    (hT : Maps.Tidy D) (hrow : w6.ownsRow B 3 1 v2 (st.row.length + 1) ((st.row.map fun (n : Nat) => Value.int .i64 (n : Int)) ++ [.int .i64 (n : Int)])) (hgrow : w.grownBy w6 v.ownBlock)
    (hown : w8.ownsMap Try.prog 3 laidElem m (c + 1) (D.put (at_ (n : Int)) (.lit (.string s)))) (ht : (w6.setCell ⟨g, 2, none⟩ v2).mapTurned w8 m) : DiskAt w8 B g q m k v2 (st.wrote n s) ∧ Below B w w8 := by
  obtain ⟨D2, k1, k2⟩ := h.cuts
  obtain ⟨l1, l2, l3, l4⟩ := h.lt
  obtain ⟨n1, n2, n3, n4, n5, n6⟩ := h.ne
  have hg6 : w6.heap[g]? = w.heap[g]? := hgrow.block g l1 (fun e => (h.rowBlock e.symm).2.1 rfl)
  have hq6 : w6.heap[q]? = w.heap[q]? := hgrow.block q l2 (fun e => (h.rowBlock e.symm).2.2.1 rfl)
  have hm6 : w6.heap[m]? = w.heap[m]? := hgrow.block m l3 (fun e => (h.rowBlock e.symm).2.2.2.1 rfl)
  have hk6 : w6.heap[k]? = w.heap[k]? := hgrow.block k l4 (fun e => (h.rowBlock e.symm).2.2.2.2.1 rfl)
  have hset : ∀ b, b ≠ g → (w6.setCell ⟨g, 2, none⟩ v2).heap[b]? = w6.heap[b]? := fun b hb => Below.heap_setCell w6 _ _ b (fun e => hb e)
  have hsz : (w6.setCell ⟨g, 2, none⟩ v2).heap.size = w6.heap.size := by simp [World.setCell]
  have gt := ht.grown
  have hs6 : w.heap.size ≤ w6.heap.size := hgrow.size
  have h8 : ∀ b, b < w6.heap.size → b ≠ m → w8.heap[b]? = (w6.setCell ⟨g, 2, none⟩ v2).heap[b]? := fun b hb hm => gt.block b (by rw [hsz]; exact hb) (by intro e; injection e with e; exact hm e)
  have hgB : w8.heap[g]? = some (.cells #[.slice (some ⟨q, 0, none⟩) st.sure.length st.sure.length, .map (some m), v2, .map (some k), .int .i64 (st.acts : Int), .bool st.dead] 116 (0, 0)) := by
    rw [h8 g (by omega) n2]
    simp [World.setCell, Array.getElem?_modify, hg6, h.blk]
  have hqB : StrBlk w8 q st.sure := by
    show w8.heap[q]? = _
    rw [h8 q (by omega) n4, hset q (Ne.symm n1), hq6]; exact h.sure
  have hrb : ∀ b, v2.ownBlock = some b → b < w6.heap.size ∧ b ≠ g ∧ b ≠ m := by
    intro b hb
    rcases hrow.2 with ⟨rfl, _⟩ | ⟨r, cap, cur, rfl, hB, hr, _⟩
    · cases hb
    · cases hb
      obtain ⟨es, clock, hmm, _⟩ := h1
      refine ⟨block_lt hr, fun e => ?_, fun e => ?_⟩
      · subst e; have := hr.symm.trans (hg6.trans h.blk); injection this with this; injection this with _ this; exact absurd this (by decide)
      · subst e; have := hr.symm.trans (hm6.trans hmm); cases this
  have hne : ∀ x : Int, x ≠ (n : Int) → at_ x ≠ at_ (n : Int) := fun x e => at_ne e
  refine ⟨⟨hgB, hqB, ⟨_, c + 1, hown, by simp [DSt.wrote]; exact h2, ?_, ?_⟩, ⟨D2, ownsMap_of_block k1 ((h8 k (by omega) n6.symm).trans ((hset k (Ne.symm n3)).trans hk6)), k2⟩, ?_, h.ge, h.ne⟩, ?_⟩
  · intro x
    by_cases e : x = (n : Int)
    · subst e; rw [Maps.has_put_same hT.isMap (show WideAt.IsKeyLit (at_ _) from trivial)]; simp [DSt.wrote]
    · rw [Maps.has_put_other (hne x e), h3]; simp [DSt.wrote, e]
  · intro x t z
    by_cases e : x = (n : Int)
    · subst e; intro hj; simp [DSt.wrote] at hj; subst hj; rw [Maps.atKey_put_same hT.isMap (show WideAt.IsKeyLit (at_ _) from trivial)]
    · intro hj; simp [DSt.wrote, e] at hj; rw [Maps.atKey_put_other (hne x e)]; exact h4 x t z hj
  · have : w8.ownsRow B 3 1 v2 (st.row.length + 1) ((st.row.map fun (n : Nat) => Value.int .i64 (n : Int)) ++ [.int .i64 (n : Int)]) := ownsRow_turn hrow (fun b hb => (h8 b (hrb b hb).1 (hrb b hb).2.2).trans (hset b (hrb b hb).2.1))
    simpa [DSt.wrote] using this
  · have hBs : B ≤ w.heap.size := Nat.le_trans h.ge.1 (Nat.le_of_lt l1)
    exact ((((Below.refl B w).grown hgrow hBs (fun b hb => (h.rowBlock hb).1)).setCell (p := ⟨g, 2, none⟩) h.ge.1 _).grown gt (by rw [hsz]; omega) (fun b hb => by injection hb with hb; subst hb; exact h.ge.2.2.1))
theorem rowShape {n : Nat} {xs : List Value} (h : w.ownsRow B 3 1 v n xs) : ∃ a c, v = .slice a n c := by
  rcases h.2 with ⟨rfl, h0⟩ | ⟨r, cap, cur, rfl, _⟩
  · exact ⟨none, 0, by rw [h0]⟩
  · exact ⟨_, cap, rfl⟩
theorem write_first (h : DiskAt w B g q m k v st) (hd : st.dead = false) (ha : st.acts < 1000000) (n : Nat) (s : List UInt8) (hn : n < st.sure.length) (hl : st.sure.length ≤ 100000) (hs : s.length = 512) (hf : st.f (n : Int) = none) (hr : st.row.length < 100000) :
    Calls Try.prog 26 #[.pointer (some ⟨g, 0, none⟩), .int .i64 (n : Int), .string (str s)] w fun e w' => e = .returned (.int .i64 0) ∧ (∃ v2, DiskAt w' B g q m k v2 (DSt.wrote { st with acts := st.acts + 1 } n s)) ∧ Below B w w' := by
  have hdead : Calls Try.prog 20 #[.pointer (some ⟨g, 0, none⟩)] w fun e w2 => e = .returned (.bool false) ∧ Below w.heap.size w w2 := by have := dead_any h; rw [hd] at this; exact this
  have hmay : ∀ w', Below w.heap.size w w' → Calls Try.prog 74 #[.pointer (some ⟨g, 0, none⟩), .int .i64 (n : Int), .string (str s)] w' fun e w2 => e = .returned (.bool true) ∧ Below w'.heap.size w' w2 := fun w' b => by
    have := may_any (h.below b) (n : Int) (str s) hl
    rw [decide_eq_true ⟨by omega, by omega, by rw [str_size]; exact hs⟩] at this
    exact this
  have hact : ∀ w', Below w.heap.size w w' → Calls Try.prog 71 #[.pointer (some ⟨g, 0, none⟩)] w' fun e w2 => e = .returned (.int .i64 0) ∧ DiskAt w2 B g q m k v { st with acts := st.acts + 1 } ∧ Keeps [g] w' w2 := fun w' b => act_any (h.below b) hd ha
  have hge := h.ge.1
  have hBw : B ≤ w.heap.size := Nat.le_trans h.ge.1 (Nat.le_of_lt h.lt.1)
  have hnr : -9223372036854775808 ≤ (n : Int) ∧ (n : Int) ≤ 9223372036854775807 := by omega
  have hkey := keyInt (n : Int) hnr
  replace hnr := Lib.hid hnr
  obtain ⟨ad, cap, hsh⟩ := rowShape h.row
  subst hsh
  replace hdead := Lib.hid hdead; replace hmay := Lib.hid hmay; replace hact := Lib.hid hact
  replace hr := Lib.hid hr; replace hge := Lib.hid hge; replace hBw := Lib.hid hBw
  have hf2 := Lib.hid hf
  clear h hd ha hn hl hs
  go_enter Try.func26, Try.ntmps26
  go_wp2_with (first
    | (go_at_call 20; (with_reducible refine hdead.out.mono ?_); rintro e w1 ⟨rfl, b1⟩; replace b1 := Lib.hid b1)
    | (go_at_call 74; (with_reducible refine (hmay.out _ b1.out).mono ?_); rintro e w2 ⟨rfl, b2⟩; replace b1 := Lib.hid (belowCont b1.out b2); clear b2)
    | (go_at_call 71; (with_reducible refine (hact.out _ b1.out).mono ?_); rintro e w3 ⟨rfl, hD, k3⟩; obtain ⟨d0, d1, d2, d3, d4, d5⟩ := hD.cells; obtain ⟨s0, hlk, -⟩ := hD.look (n : Int) hnr.out; rw [hf] at hlk; have hlk2 : (Instr.lookup 113 (.map (some m)) (.int .i64 (n : Int)) true).run Try.prog w3 = .ok (.tuple #[.agg #[.string s0], .bool false]) w3 := hlk; clear hlk; have D4 := hD.below ((Below.refl w3.heap.size w3).alloc (Nat.le_refl _) (.cells #[.string s0] 123)); obtain ⟨x0, x1, x2, x3, x4, x5⟩ := D4.cells; have f2 := D4.free 2; replace k3 := Lib.hid k3; replace hD := Lib.hid hD; replace D4 := Lib.hid D4)
    | (at_builtin; refine wpList_append_int rfl _ _ rfl B _ _ _ rfl (D4.out.below ((Below.refl _ _).alloc (Nat.le_refl _) _)).row _ _ _ rfl (newCell2 _ _ _ _ 0) ?ha ?hb ?_; (case ha => exact Nat.lt_trans hr.out (by decide)); (case hb => have q1 := (D4.out.lt).1; have q2 := hge.out; exact Nat.le_trans q2 (Nat.le_trans (Nat.le_of_lt q1) (by simp))); intro v2 w6 hrow2 hgrow2; obtain ⟨ad2, cap2, hsh2⟩ := rowShape hrow2; subst hsh2; have D5 := D4.out.below ((Below.refl _ _).alloc (Nat.le_refl _) (.cells #[.int .i64 (n : Int)] 3)); have hg6 := (hgrow2.block g D5.lt.1 (fun e => (D5.rowBlock e.symm).2.1 rfl)).trans D5.blk; have y1 := cell_of_row _ _ 1 _ _ _ hg6; have y2 := cell_of_row _ _ 2 _ _ _ hg6; have fz := free_of_row hg6 2; obtain ⟨D, c, q1, q2, q3, q4⟩ := D5.fresh; have hm6 := hgrow2.block m D5.lt.2.2.1 (fun e => (D5.rowBlock e.symm).2.2.2.1 rfl); have hm7 := ownsMap_of_block q1 ((Below.heap_setCell w6 ⟨g, 2, none⟩ (.slice ad2 (st.row.length + 1) cap2) m (fun e => D5.ne.2.1 e.symm)).trans hm6); replace q1 := Lib.hid q1; replace q2 := Lib.hid q2; replace q3 := Lib.hid q3; replace q4 := Lib.hid q4; replace hm7 := Lib.hid hm7; replace D5 := Lib.hid D5; replace hrow2 := Lib.hid hrow2; replace hgrow2 := Lib.hid hgrow2; clear hg6 hm6)
    | (at_mapUpdate; refine wpList_mapUpdate_in _ rfl _ _ _ 113 rfl 3 123 keyedInt Try.underlying113 laidElem m c D rfl hm7.out ?hroom _ _ (at_ (n : Int)) rfl rfl hkey _ [] (laidElem_mk _) ?_; (case hroom => have a1 := q2.out; have a2 := hr.out; unfold maxLen; simp at a1; omega); intro w8 hown8 hturn8; have hfin := D5.out.written q1.out q2.out q3.out q4.out (q1.out.tidy keyedInt) hrow2.out hgrow2.out hown8 hturn8; replace hfin := Lib.hid hfin; clear hown8 hturn8))
  go_outline
  go_ret
  exact ⟨rfl, ⟨_, hfin.out.1⟩, ((((b1.out.mono hBw.out).trans (k3.out.below (Nat.le_trans hBw.out b1.out.size) (by intro x hx; simp at hx; subst hx; exact hge.out))).alloc (Nat.le_trans hBw.out (Nat.le_trans b1.out.size k3.out.size)) _).alloc (Nat.le_trans (Nat.le_trans hBw.out (Nat.le_trans b1.out.size k3.out.size)) (by simp)) _).trans hfin.out.2⟩
end
end Go.Proofs.Ytdhboldmffiklab.disk
