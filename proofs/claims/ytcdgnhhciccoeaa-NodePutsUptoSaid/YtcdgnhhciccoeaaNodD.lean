/- What law17 holds its own run for (awake) answers true. No condition. -/
import Derived.Test.YtcdgnhhciccoeaaNodC
import Derived.Laws.StructEq
namespace Go.Proofs.Ytcdgnhhciccoeaa.nod
open Go.RowKit
open code (numL textL)
attribute [local go_sem ↓] Go.wp_at_zero Go.wp_at_succ
attribute [local go_sem] str_size
set_option linter.unusedVariables false
set_option linter.unusedSimpArgs false
set_option maxRecDepth 100000

def kA : ByteArray := ⟨#[97]⟩
def vA : ByteArray := ⟨#[98]⟩
theorem kA_list : kA.toList = [97] := by rw [show kA = str [97] from rfl]; exact str_bl _
theorem awk_may : mayN [⟨kA, vA⟩] [] = true := by
  have h1 : riseB (keysL [⟨kA, vA⟩] []) = true := riseB_yes fun j x y _ h => by simp [keysL] at h
  have h2 : kA.size = 1 := rfl
  have h3 : vA.size = 1 := rfl
  unfold mayN
  rw [h1]
  simp [enOk, kA_list, h2, h3]
theorem awk_len : (nodB [⟨kA, vA⟩] []).length ≤ 462 := by
  have h1 := txL_len kA (by decide)
  have h2 := txL_len vA (by decide)
  have h3 := code.numL_len64 1 (by decide)
  have h4 : kA.size = 1 := rfl
  have h5 : vA.size = 1 := rfl
  unfold nodB markB
  simp [entB]
  omega
set_option maxHeartbeats 4000000 in
theorem awake_any (w : World) : Calls Try.prog 10 #[] w fun e w' => e = .returned (.bool true) ∧ Below w.heap.size w w' := by
  have hsm : SmE [⟨kA, vA⟩] := ⟨by decide, fun e he => by rw [List.mem_singleton.1 he]; exact ⟨by decide, by decide⟩⟩
  have k1 : ∀ W ev, Sl W ev 1 (enC [⟨kA, vA⟩]) → Calls Try.prog 6 #[.agg #[ev, .slice none 0 0]] W fun e w' => e = .returned (.string (str (nodB [⟨kA, vA⟩] []))) ∧ Below W.heap.size W w' := fun W ev h => by
    have := put_any ev (.slice none 0 0) [⟨kA, vA⟩] [] W h (Sl.nil _) hsm ⟨by decide, fun x hx => by cases hx⟩
    have e : putB [⟨kA, vA⟩] [] = nodB [⟨kA, vA⟩] [] := by unfold putB; rw [awk_may, decide_eq_true awk_len]; rfl
    rwa [e] at this
  have k2 : ∀ W, Calls Try.prog 9 #[.string (str (nodB [⟨kA, vA⟩] []))] W fun e w' => ∃ ev, e = .returned (.tuple #[.agg #[ev, .slice none 0 0], .int .i64 0]) ∧ Sl w' ev 1 (enC [⟨kA, vA⟩]) ∧ Below W.heap.size W w' := fun W => getE_put [⟨kA, vA⟩] W awk_may awk_len (by decide)
  have hp0 := (Hp.none_ w []).rowLit #[.string kA, .string vA] 43 2 1 (by decide) rfl
  have hs0 : Sl (w.alloc (.cells #[.string kA, .string vA] 43)) (.slice (some ⟨w.heap.size, 0, none⟩) 1 1) 1 (enC [⟨kA, vA⟩]) := hp0.sl (i := 0) rfl (by decide)
  have hkl := kA_list
  have hb0 := hp0.bel
  clear hp0
  have e1 : (⟨#[97]⟩ : ByteArray) = kA := rfl
  have e2 : (⟨#[98]⟩ : ByteArray) = vA := rfl
  replace k1 := Lib.hid k1; replace k2 := Lib.hid k2; replace hs0 := Lib.hid hs0; replace hb0 := Lib.hid hb0
  clear hsm
  go_enter Try.func10, Try.ntmps10
  rw [e1, e2]
  generalize kA = ka at *
  generalize vA = va at *
  go_upto_region 2 with (first
    | (go_at_call 6; (with_reducible refine (k1.out _ _ hs0.out).mono ?_); rintro e w2 ⟨rfl, b2⟩; have hb2 := Lib.hid (belowCont hb0.out b2); clear b2)
    | (go_at_call 9; (with_reducible refine (k2.out _).mono ?_); rintro e w3 ⟨gv, rfl, hs3, b3⟩; have hb3 := Lib.hid (belowCont hb2.out b3); clear b3; obtain ⟨ga, gc, rfl, _, hz⟩ := hs3; obtain ⟨gb, go_, rfl, hr⟩ := hz.resolve_left (by decide); clear hz))
  have hpb := (Hp.none_ w3 []).alloc #[.slice (some ⟨gb, go_, none⟩) 1 gc, .slice none 0 0] 25
  have c0 := hpb.cell (i := 0) rfl 0
  simp at c0
  have d0 : (w3.alloc (.cells #[.slice (some ⟨gb, go_, none⟩) 1 gc, .slice none 0 0] 25)).cell? ⟨gb, go_, none⟩ = some (.string ka) := (hpb.bel.cell hr.1).trans (hr.2 0 _ rfl)
  have d1 : (w3.alloc (.cells #[.slice (some ⟨gb, go_, none⟩) 1 gc, .slice none 0 0] 25)).cell? ⟨gb, go_ + 1, none⟩ = some (.string va) := (hpb.bel.cell hr.1).trans (hr.2 1 _ rfl)
  have hfin := Lib.hid (belowCont hb3.out hpb.bel)
  clear hpb hr
  go_wp2
  go_ret
  exact ⟨rfl, hfin.out⟩
end Go.Proofs.Ytcdgnhhciccoeaa.nod
