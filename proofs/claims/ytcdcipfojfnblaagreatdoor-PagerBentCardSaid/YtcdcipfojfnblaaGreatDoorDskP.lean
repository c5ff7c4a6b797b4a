/- Poking a block that is not sure yet (package disk), and that on a disk that is held. No condition. -/
import Derived.Test.YtcdcipfojfnblaaGreatDoorMach
namespace Go.Proofs.YtcdcipfojfnblaaGreatDoor.disk
open Go.RowKit
attribute [local go_sem ↓] Go.wp_at_zero Go.wp_at_succ
attribute [local go_sem] str_size str_append
set_option linter.unusedVariables false
set_option linter.unusedSimpArgs false
set_option maxRecDepth 100000
section
variable {w w' : World} {B g q m k : Nat} {v : Value} {st : DSt}
def DSt.poked (st : DSt) (n : Nat) (s : List UInt8) : DSt := DSt.over { st with sure := st.sure.set n s } n s
set_option maxHeartbeats 4000000 in
theorem poke_k (h : DiskAt w B g q m k v st) (n : Nat) (s : List UInt8) (hn : n < st.sure.length) (hl : st.sure.length ≤ 100000) (hs : s.length = 512) (t0 : List UInt8) (hf : st.f (n : Int) = some t0) (hr : st.row.length < 100000) :
    Calls Tryz.prog 28 #[.pointer (some ⟨g, 0, none⟩), .int .i64 (n : Int), .string (str s)] w fun e w' => e = .returned (.bool true) ∧ DiskAt w' B g q m k v (st.poked n s) ∧ Keeps [g, q, m] w w' := by
  have hmay : ∀ w', Below w.heap.size w w' → Calls Tryz.prog 58 #[.pointer (some ⟨g, 0, none⟩), .int .i64 (n : Int), .string (str s)] w' fun e w2 => e = .returned (.bool true) ∧ Below w'.heap.size w' w2 := fun w' b => by
    have := may_any (h.below b) (n : Int) (str s) hl
    rw [decide_eq_true ⟨by omega, by omega, by rw [str_size]; exact hs⟩] at this
    exact this
  have hge := h.ge.1
  have hbel := fun w' (b : Below w.heap.size w w') => h.below b
  have hnr : -9223372036854775808 ≤ (n : Int) ∧ (n : Int) ≤ 9223372036854775807 := by omega
  have hkey := keyInt (n : Int) hnr
  obtain ⟨t1, ht1⟩ : ∃ t, st.sure[n]? = some t := ⟨_, List.getElem?_eq_getElem hn⟩
  have e1 : (0 : Int) ≤ (n : Int) := by omega
  have e2 : (n : Int) < (st.sure.length : Int) := by omega
  replace hnr := Lib.hid hnr
  replace hmay := Lib.hid hmay; replace hbel := Lib.hid hbel
  replace hr := Lib.hid hr; replace hge := Lib.hid hge
  replace ht1 := Lib.hid ht1
  have hf2 := Lib.hid hf
  clear h hl hs hn
  go_enter Tryz.func28, Tryz.ntmps28
  go_wp2_with (first
    | (go_at_call 58; (with_reducible refine (hmay.out _ (Below.refl _ _)).mono ?_); rintro e w2 ⟨rfl, b2⟩; have D2 := hbel.out _ b2; have u0 := D2.cells.1; have hfr := D2.sure.free n; have hs0 := D2.sure.cell ht1.out; have D3 := D2.setSure n s; clear D2; have x1 := D3.cells.2.1; obtain ⟨s0, hlk, -⟩ := D3.look (n : Int) hnr.out; simp only [hf2.out] at hlk; have hlk2 : (Instr.lookup 108 (.map (some m)) (.int .i64 (n : Int)) true).run Tryz.prog (w2.setCell ⟨q, n, none⟩ (.string (str s))) = .ok (.tuple #[.agg #[.string s0], .bool true]) (w2.setCell ⟨q, n, none⟩ (.string (str s))) := hlk; clear hlk; have D4 := D3.below ((Below.refl _ (w2.setCell ⟨q, n, none⟩ (.string (str s)))).alloc (Nat.le_refl _) (.cells #[.string s0] 127)); obtain ⟨-, y1, -, -, -, -⟩ := D4.cells; obtain ⟨D, c, q1, q2, q3, q4⟩ := D4.fresh; replace q1 := Lib.hid q1; replace q2 := Lib.hid q2; replace q3 := Lib.hid q3; replace q4 := Lib.hid q4; replace D3 := Lib.hid D3; replace D4 := Lib.hid D4; replace b2 := Lib.hid b2)
    | (at_mapUpdate; refine wpList_mapUpdate_in _ rfl _ _ _ 108 rfl 3 127 keyedInt Tryz.underlying108 laidElem m c D rfl q1.out ?hroom _ _ (at_ (n : Int)) rfl rfl hkey _ [] (laidElem_mk _) ?_; (case hroom => have a1 := q2.out; have a2 := hr.out; unfold maxLen; (try simp only [] at a1); omega); intro w8 hown8 hturn8; have hfin := D4.out.rewritten q1.out q2.out q3.out q4.out (by show (st.f (n : Int)).isSome = true; rw [hf2.out]; rfl) hown8 hturn8; replace hfin := Lib.hid hfin; have hfk := Lib.hid ((Keeps.refl [g, q, m] _).turned (Or.inl (by simp)) hturn8); clear hown8 hturn8))
  go_ret
  exact ⟨rfl, hfin.out.1, (((Keeps.ofBelow b2.out _).setCell (p := ⟨q, n, none⟩) (Or.inl (by simp)) _).alloc _).trans hfk.out⟩
end
end Go.Proofs.YtcdcipfojfnblaaGreatDoor.disk
namespace Go.Proofs.YtcdcipfojfnblaaGreatDoor.mach
open Go.RowKit
section
variable {w W : World} {X : List Nat} {rs : List Rs} {g : Nat} {st : disk.DSt} {i : Nat} (h : Hp w X rs W) (hi : rs[i]? = some (dsk g st))
include h hi
theorem poke_hp (n : Nat) (s : List UInt8) (hn : n < st.sure.length) (hl : st.sure.length ≤ 100000) (hs : s.length = 512) (t0 : List UInt8) (hf : st.f (n : Int) = some t0) (hr : st.row.length < 100000) :
    Calls Tryz.prog 28 #[.pointer (some ⟨g, 0, none⟩), .int .i64 (n : Int), .string (str s)] W fun e w' => e = .returned (.bool true) ∧ Hp w X (rs.set i (dsk g (st.poked n s))) w' := by
  obtain ⟨q, m, k, v, hD⟩ := dsk_get h hi
  refine (disk.poke_k hD n s hn hl hs t0 hf hr).mono ?_
  rintro e w' ⟨rfl, hD2, hk⟩
  exact ⟨rfl, dsk_turn h hi hD hD2 (hk.more (by intro x hx; left; simp at hx; simp [dfp]; rcases hx with rfl | rfl | rfl <;> simp)) (fun b hb => Or.inl hb)⟩
end
end Go.Proofs.YtcdcipfojfnblaaGreatDoor.mach
