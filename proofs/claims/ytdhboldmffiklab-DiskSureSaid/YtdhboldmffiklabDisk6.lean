/- Writing a disk's block, whether it was written since or not; making all sure; the failing of its power with whatever fates, where no cut is planned (package disk). No condition. -/
import Derived.Test.YtdhboldmffiklabDisk5
namespace Go.Proofs.Ytdhboldmffiklab.disk
open Go.RowKit
attribute [local go_sem ↓] Go.wp_at_zero Go.wp_at_succ
attribute [local go_sem] str_size str_append
set_option linter.unusedVariables false
set_option maxRecDepth 100000

theorem ownsMap_size {H : Type} {P : Program} {k : TypeId} {R : Value → Option (DataW H × List MemPlace)} {w : World} {b n : Nat} {D : DataW H} (h : w.ownsMap P k R b n D) : Maps.size D ≤ n := by
  obtain ⟨es, clock, hb, F, hs, rfl⟩ := h
  simpa [Maps.size, length_sorted] using hs
section
variable {w w' : World} {B g q m k : Nat} {v : Value} {st : DSt}
def DSt.over (st : DSt) (n : Nat) (s : List UInt8) : DSt := ⟨st.sure, fun x => if x = (n : Int) then some s else st.f x, st.row, st.acts, st.dead⟩
theorem DiskAt.rewritten (h : DiskAt w B g q m k v st) {w8 : World} {D : DataW Unit} {c : Nat} {n : Nat} {s : List UInt8} (h1 : w.ownsMap Try.prog 3 laidElem m c D) (h2 : c ≤ st.row.length) (h3 : ∀ x, Maps.has D (at_ x) = (st.f x).isSome) (h4 : ∀ x t z, st.f x = some t → D.atKey (at_ x) z = .lit (.string t))
    (hf : (st.f (n : Int)).isSome = true) (hown : w8.ownsMap Try.prog 3 laidElem m (c + 1) (D.put (at_ (n : Int)) (.lit (.string s)))) (ht : w.mapTurned w8 m) : DiskAt w8 B g q m k v (st.over n s) ∧ Below B w w8 := by
  obtain ⟨D2, k1, k2⟩ := h.cuts
  obtain ⟨l1, l2, l3, l4⟩ := h.lt
  obtain ⟨n1, n2, n3, n4, n5, n6⟩ := h.ne
  have hT := h1.tidy keyedInt
  have gt := ht.grown
  have h8 : ∀ b, b < w.heap.size → b ≠ m → w8.heap[b]? = w.heap[b]? := fun b hb hm => gt.block b hb (by intro e; injection e with e; exact hm e)
  have hne : ∀ x : Int, x ≠ (n : Int) → at_ x ≠ at_ (n : Int) := fun x e => at_ne e
  have hz : Maps.size (D.put (at_ (n : Int)) (.lit (.string s))) ≤ st.row.length := by
    rw [Maps.size_put hT, h3, hf, if_pos rfl]
    exact Nat.le_trans (ownsMap_size h1) h2
  refine ⟨⟨(h8 g l1 n2).trans h.blk, (h8 q l2 n4).trans h.sure, ⟨_, _, ownsMap_tight hown, hz, ?_, ?_⟩, ⟨D2, ownsMap_of_block k1 (h8 k l4 n6.symm), k2⟩, ownsRow_turn h.row (fun b hb => h8 b (h.rowBlock hb).2.2.2.2.2 (h.rowBlock hb).2.2.2.1), h.ge, h.ne⟩, ?_⟩
  · intro x
    by_cases e : x = (n : Int)
    · subst e; rw [Maps.has_put_same hT.isMap (show WideAt.IsKeyLit (at_ _) from trivial)]; simp [DSt.over]
    · rw [Maps.has_put_other (hne x e), h3]; simp [DSt.over, e]
  · intro x t z
    by_cases e : x = (n : Int)
    · subst e; intro hj; simp [DSt.over] at hj; subst hj; rw [Maps.atKey_put_same hT.isMap (show WideAt.IsKeyLit (at_ _) from trivial)]
    · intro hj; simp [DSt.over, e] at hj; rw [Maps.atKey_put_other (hne x e)]; exact h4 x t z hj
  · have hBs : B ≤ w.heap.size := Nat.le_trans h.ge.1 (Nat.le_of_lt l1)
    exact (Below.refl B w).grown gt hBs (fun b hb => by injection hb with hb; subst hb; exact h.ge.2.2.1)
theorem write_again (h : DiskAt w B g q m k v st) (hd : st.dead = false) (ha : st.acts < 1000000) (n : Nat) (s : List UInt8) (hn : n < st.sure.length) (hl : st.sure.length ≤ 100000) (hs : s.length = 512) (t0 : List UInt8) (hf : st.f (n : Int) = some t0) (hr : st.row.length < 100000) :
    Calls Try.prog 26 #[.pointer (some ⟨g, 0, none⟩), .int .i64 (n : Int), .string (str s)] w fun e w' => e = .returned (.int .i64 0) ∧ DiskAt w' B g q m k v (DSt.over { st with acts := st.acts + 1 } n s) ∧ Below B w w' := by
  have hdead : Calls Try.prog 20 #[.pointer (some ⟨g, 0, none⟩)] w fun e w2 => e = .returned (.bool false) ∧ Below w.heap.size w w2 := by have := dead_any h; rw [hd] at this; exact this
  have hmay : ∀ w', Below w.heap.size w w' → Calls Try.prog 74 #[.pointer (some ⟨g, 0, none⟩), .int .i64 (n : Int), .string (str s)] w' fun e w2 => e = .returned (.bool true) ∧ Below w'.heap.size w' w2 := fun w' b => by
    have := may_any (h.below b) (n : Int) (str s) hl
    rw [decide_eq_true ⟨by omega, by omega, by rw [str_size]; exact hs⟩] at this
    exact this
  have hact : ∀ w', Below w.heap.size w w' → Calls Try.prog 71 #[.pointer (some ⟨g, 0, none⟩)] w' fun e w2 => e = .returned (.int .i64 0) ∧ DiskAt w2 B g q m k v { st with acts := st.acts + 1 } ∧ Keeps [g] w' w2 := fun w' b => act_any (h.below b) hd ha
  have hge := h.ge.1
  have hBw : B ≤ w.heap.size := Nat.le_trans h.ge.1 (Nat.le_of_lt h.lt.1)
  have hnr : -9223372036854775808 ≤ (n : Int) ∧ (n : Int) ≤ 9223372036854775807 := by omega
  have hkey := keyInt (n : Int) hnr
  replace hnr := Lib.hid hnr
  replace hdead := Lib.hid hdead; replace hmay := Lib.hid hmay; replace hact := Lib.hid hact
  replace hr := Lib.hid hr; replace hge := Lib.hid hge; replace hBw := Lib.hid hBw
  have hf2 := Lib.hid hf
  clear h hd ha hn hl hs
  go_enter Try.func26, Try.ntmps26
  go_wp2_with (first
    | (go_at_call 20; (with_reducible refine hdead.out.mono ?_); rintro e w1 ⟨rfl, b1⟩; replace b1 := Lib.hid b1)
    | (go_at_call 74; (with_reducible refine (hmay.out _ b1.out).mono ?_); rintro e w2 ⟨rfl, b2⟩; replace b1 := Lib.hid (belowCont b1.out b2); clear b2)
    | (go_at_call 71; (with_reducible refine (hact.out _ b1.out).mono ?_); rintro e w3 ⟨rfl, hD, k3⟩; obtain ⟨d0, d1, d2, d3, d4, d5⟩ := hD.cells; obtain ⟨s0, hlk, -⟩ := hD.look (n : Int) hnr.out; rw [hf] at hlk; have hlk2 : (Instr.lookup 113 (.map (some m)) (.int .i64 (n : Int)) true).run Try.prog w3 = .ok (.tuple #[.agg #[.string s0], .bool true]) w3 := hlk; clear hlk; have D4 := hD.below ((Below.refl w3.heap.size w3).alloc (Nat.le_refl _) (.cells #[.string s0] 123)); obtain ⟨x0, x1, x2, x3, x4, x5⟩ := D4.cells; obtain ⟨D, c, q1, q2, q3, q4⟩ := D4.fresh; replace q1 := Lib.hid q1; replace q2 := Lib.hid q2; replace q3 := Lib.hid q3; replace q4 := Lib.hid q4; replace k3 := Lib.hid k3; replace hD := Lib.hid hD; replace D4 := Lib.hid D4)
    | (at_mapUpdate; go_loud (refine wpList_mapUpdate_in _ rfl _ _ _ 113 rfl 3 123 keyedInt Try.underlying113 laidElem m c D rfl q1.out ?hroom _ _ (at_ (n : Int)) rfl rfl hkey _ [] (laidElem_mk _) ?_; (case hroom => have a1 := q2.out; have a2 := hr.out; unfold maxLen; (try simp only [] at a1); omega); intro w8 hown8 hturn8; have hfin := D4.out.rewritten q1.out q2.out q3.out q4.out (by show (st.f (n : Int)).isSome = true; rw [hf2.out]; rfl) hown8 hturn8; replace hfin := Lib.hid hfin; clear hown8 hturn8)))
  go_ret
  exact ⟨rfl, hfin.out.1, (((b1.out.mono hBw.out).trans (k3.out.below (Nat.le_trans hBw.out b1.out.size) (by intro x hx; simp at hx; subst hx; exact hge.out))).alloc (Nat.le_trans hBw.out (Nat.le_trans b1.out.size k3.out.size)) _).trans hfin.out.2⟩
/-- a block that is written -/
def DSt.wr (st : DSt) (n : Nat) (s : List UInt8) : DSt := ⟨st.sure, fun x => if x = (n : Int) then some s else st.f x, if (st.f (n : Int)).isSome then st.row else st.row ++ [n], st.acts + 1, st.dead⟩
theorem write_any (h : DiskAt w B g q m k v st) (hd : st.dead = false) (ha : st.acts < 1000000) (n : Nat) (s : List UInt8) (hn : n < st.sure.length) (hl : st.sure.length ≤ 100000) (hs : s.length = 512) (hr : st.row.length < 100000) :
    Calls Try.prog 26 #[.pointer (some ⟨g, 0, none⟩), .int .i64 (n : Int), .string (str s)] w fun e w' => e = .returned (.int .i64 0) ∧ (∃ v2, DiskAt w' B g q m k v2 (st.wr n s)) ∧ Below B w w' := by
  cases hf : st.f (n : Int) with
  | none =>
    refine (write_first h hd ha n s hn hl hs hf hr).mono fun e w' ⟨h1, ⟨v2, h2⟩, h3⟩ => ⟨h1, ⟨v2, ?_⟩, h3⟩
    have e : DSt.wrote { st with acts := st.acts + 1 } n s = st.wr n s := by unfold DSt.wrote DSt.wr; rw [hf]; rfl
    rw [← e]; exact h2
  | some t0 =>
    refine (write_again h hd ha n s hn hl hs t0 hf hr).mono fun e w' ⟨h1, h2, h3⟩ => ⟨h1, ⟨v, ?_⟩, h3⟩
    have e : DSt.over { st with acts := st.acts + 1 } n s = st.wr n s := by unfold DSt.over DSt.wr; rw [hf]; rfl
    rw [← e]; exact h2
/-- what is sure behind a flush -/
def layL (f : Int → Option (List UInt8)) : List (List UInt8) → List Nat → List (List UInt8)
  | S, [] => S
  | S, n :: r => layL f (S.set n ((f (n : Int)).getD [])) r
theorem layL_snoc (f : Int → Option (List UInt8)) : ∀ (l : List Nat) (S : List (List UInt8)) (n : Nat), layL f S (l ++ [n]) = (layL f S l).set n ((f (n : Int)).getD [])
  | [], S, n => rfl
  | a :: l, S, n => layL_snoc f l _ n
theorem layL_len (f : Int → Option (List UInt8)) : ∀ (l : List Nat) (S : List (List UInt8)), (layL f S l).length = S.length
  | [], S => rfl
  | a :: l, S => by rw [layL, layL_len f l]; simp
theorem rowAt {r cap L : Nat} {ns : List Nat} {i n : Nat} (h : w.ownsRow B 3 1 (.slice (some ⟨r, 0, none⟩) L cap) L (ns.map fun (n : Nat) => Value.int .i64 (n : Int))) (hi : ns[i]? = some n) : w.cell? ⟨r, i, none⟩ = some (.int .i64 (n : Int)) := by
  have := World.ownsRow.cells h (g := r) rfl i (.int .i64 (n : Int)) (by simp [hi])
  have e : (⟨r, 0, none⟩ : Addr).add i = ⟨r, i, none⟩ := by unfold Addr.add; split <;> simp_all
  rwa [e] at this
theorem row_some {v : Value} {ns : List Nat} (h : w.ownsRow B 3 1 v ns.length (ns.map fun (n : Nat) => Value.int .i64 (n : Int))) (h0 : 0 < ns.length) : ∃ r cap, v = .slice (some ⟨r, 0, none⟩) ns.length cap := by
  rcases h.2 with ⟨_, h1⟩ | ⟨r, cap, cur, hv, _⟩
  · omega
  · exact ⟨r, cap, hv⟩
set_option maxHeartbeats 4000000 in
theorem flush_any (h : DiskAt w B g q m k v st) (hd : st.dead = false) (ha : st.acts < 1000000) (hl : st.sure.length ≤ 100000) (hrow : ∀ n, n ∈ st.row → n < st.sure.length ∧ (st.f (n : Int)).isSome = true) (hr : st.row.length ≤ 100000) :
    Calls Try.prog 28 #[.pointer (some ⟨g, 0, none⟩)] w fun e w' => e = .returned (.int .i64 0) ∧ (∃ m2, DiskAt w' B g q m2 k (.slice none 0 0) ⟨layL st.f st.sure st.row, fun _ => none, [], st.acts + 1, st.dead⟩) ∧ Below B w w' := by
  have hact : Calls Try.prog 71 #[.pointer (some ⟨g, 0, none⟩)] w fun e w2 => e = .returned (.int .i64 0) ∧ DiskAt w2 B g q m k v { st with acts := st.acts + 1 } ∧ Keeps [g] w w2 := act_any h hd ha
  have hge := Lib.hid h.ge
  have hB : B ≤ w.heap.size := Nat.le_trans h.ge.1 (Nat.le_of_lt h.lt.1)
  obtain ⟨L, hL⟩ : ∃ L, L = st.row.length := ⟨_, rfl⟩
  obtain ⟨ad, cap, hsh⟩ := rowShape h.row
  rw [← hL] at hsh
  have hsome : 0 < L → ∃ r, ad = some ⟨r, 0, none⟩ := fun h0 => by
    obtain ⟨r, c, hv⟩ := row_some h.row (by omega)
    rw [hsh] at hv
    injection hv with e1
    exact ⟨r, e1⟩
  subst hsh
  rw [← hL] at hr
  replace hact := Lib.hid hact; replace hB := Lib.hid hB; replace hrow := Lib.hid hrow; replace hsome := Lib.hid hsome; replace hL := Lib.hid hL
  clear h hd ha
  go_enter Try.func28, Try.ntmps28
  go_wp2_with (go_at_call 71; (with_reducible refine hact.out.mono ?_); rintro e w1 ⟨rfl, D1, k1⟩; obtain ⟨d0, d1, d2, d3, d4, d5⟩ := D1.cells; replace D1 := Lib.hid D1; replace k1 := Lib.hid (k1.below hB.out (by intro x hx; simp at hx; subst hx; exact hge.out.1)))
  clear d0 d1 d2 d3 d4 d5
  go_loopg [16] L (fun kk s16 wr => ∃ i : Nat, s16 = .int .i64 (i : Int) ∧ i + kk = L ∧ DiskAt wr B g q m k (.slice ad L cap) { st with acts := st.acts + 1, sure := layL st.f st.sure (st.row.take i) } ∧ Below B w wr)
  case atStart => exact ⟨0, rfl, by omega, D1.out, k1.out⟩
  case round =>
    clear D1 k1
    obtain ⟨i, rfl, hik, hD, hb⟩ := hrel
    by_cases hi : i < L
    · obtain ⟨Ko, rfl⟩ : ∃ K : Nat, gk = K + 1 := ⟨gk - 1, by omega⟩
      obtain ⟨r, rfl⟩ := hsome.out (by omega)
      obtain ⟨n, hn⟩ : ∃ n, st.row[i]? = some n := ⟨_, List.getElem?_eq_getElem (by have := hL.out; omega)⟩
      obtain ⟨hn1, hn2⟩ := hrow.out n (List.mem_of_getElem? hn)
      obtain ⟨t, ht⟩ := Option.isSome_iff_exists.1 hn2
      have hstep : (layL st.f st.sure (st.row.take i)).set n t = layL st.f st.sure (st.row.take (i + 1)) := by
        rw [List.take_add_one, hn]
        show _ = layL st.f st.sure (st.row.take i ++ [n])
        rw [layL_snoc, ht]; rfl
      have hSl : (layL st.f st.sure (st.row.take i)).length = st.sure.length := layL_len _ _ _
      have hc : wr.cell? ⟨r, i, none⟩ = some (.int .i64 (n : Int)) := by
        have hr2 := hD.row
        simp only [] at hr2
        rw [← hL.out] at hr2
        exact rowAt hr2 hn
      obtain ⟨S, hS⟩ : ∃ S, S = layL st.f st.sure (st.row.take i) := ⟨_, rfl⟩
      rw [← hS] at hD hstep hSl
      obtain ⟨S2, hS2⟩ : ∃ S2, S2 = layL st.f st.sure (st.row.take (i + 1)) := ⟨_, rfl⟩
      rw [← hS2] at hstep
      obtain ⟨d0, d1, d2, d3, d4, d5⟩ := hD.cells
      have hnr : -9223372036854775808 ≤ (n : Int) ∧ (n : Int) ≤ 9223372036854775807 := by omega
      have hg2 := (hD.below (Below.refl _ _).drew).get (n : Int) hnr ht
      obtain ⟨t0, ht0⟩ : ∃ t, S[n]? = some t := ⟨_, List.getElem?_eq_getElem (by omega)⟩
      have hfr := hD.sure.free n
      have hs0 := hD.sure.cell ht0
      have hD2 := hD.setSure n t
      simp only [] at hD2
      rw [hstep] at hD2
      have e1 : (0 : Int) ≤ (n : Int) := by omega
      have e2 : (n : Int) < (S.length : Int) := by omega
      have e3 : (0 : Int) ≤ (i : Int) := by omega
      have e4 : (i : Int) < (L : Int) := by omega
      have hfl := fun s => field_laid wr.drew s
      simp only [] at d0 d1 d2 d4
      replace hD2 := Lib.hid hD2; replace hb := Lib.hid hb; replace hS2 := Lib.hid hS2
      clear hD hS hstep hn hn1 hn2 ht ht0 hnr d3 d4 d5 hSl
      go_upto_region 7 with fail
      refine wp_region_still_tail 13 (by kernel_rfl) (by kernel_rfl) ?_
      simp only [List.take_succ_cons, List.take_zero, List.drop_succ_cons, List.drop_zero]
      change wpStill _ _ wr.drew _ _ _
      repeat still_step
      try refine wpStill_nil ?_
      change wpList _ _ _ _ _ wr.drew
      go_wp2
      go_roundg Ko
      case measure => omega
      case rel => exact ⟨i + 1, by go_num, by omega, by rw [← hS2.out]; exact hD2.out.below (Below.refl _ _).drew, (hb.out.setCell (p := ⟨q, n, none⟩) hge.out.2.1 _).drew⟩
    · have hk0 : gk = 0 := by omega
      subst hk0
      have hiL : i = L := by omega
      have e4 : ¬ (i : Int) < (L : Int) := by omega
      have htk : st.row.take i = st.row := List.take_of_length_le (by have := hL.out; omega)
      rw [htk] at hD
      have hsett : Calls Try.prog 75 #[.pointer (some ⟨g, 0, none⟩)] wr fun e w2 => e = .returned (.tuple #[]) ∧ DiskAt w2 B g q wr.heap.size k (.slice none 0 0) ⟨layL st.f st.sure st.row, fun _ => none, [], st.acts + 1, st.dead⟩ ∧ Below B wr w2 := settle_any hD
      replace hsett := Lib.hid hsett; replace hb := Lib.hid hb
      clear hD htk
      go_wp2_with (go_at_call 75; (with_reducible refine hsett.out.mono ?_); rintro e w5 ⟨rfl, hE, b5⟩; replace hE := Lib.hid hE; replace b5 := Lib.hid (hb.out.trans b5))
      go_ret
      exact ⟨rfl, ⟨_, hE.out⟩, b5.out⟩
end
end Go.Proofs.Ytdhboldmffiklab.disk
