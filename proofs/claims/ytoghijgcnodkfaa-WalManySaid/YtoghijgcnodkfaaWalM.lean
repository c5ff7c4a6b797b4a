/- So many changes a record has, and no more: the law WalMany. No condition. -/
import Derived.Test.YtoghijgcnodkfaaWal8
namespace Go.Proofs.Ytoghijgcnodkfaa.wal
open Go.RowKit
open code (textL boolL textL_len text_put rtext_put)
attribute [local go_sem ↓] Go.wp_at_zero Go.wp_at_succ
attribute [local go_sem] str_size str_bl str_append
set_option linter.unusedVariables false
set_option maxRecDepth 100000

def cz : Ch := ⟨[], [], false⟩
def ck : Ch := ⟨[107], [], true⟩
/-- so many are laid -/
def laidN (k i : Nat) : List Ch := List.replicate i ck ++ List.replicate (k - i) cz
theorem laidN_len (k i : Nat) (h : i ≤ k) : (laidN k i).length = k := by simp [laidN]; omega
theorem chCells_append (a b : List Ch) : chCells (a ++ b) = chCells a ++ chCells b := by simp [chCells]
theorem chCells_len (a : List Ch) : (chCells a).length = a.length * 3 := flat_len chC 3 chC_len a
theorem laid_put (k i : Nat) (h : i < k) : (((chCells (laidN k i)).toArray.setIfInBounds (i * 3) (.string ⟨#[107]⟩)).setIfInBounds (i * 3 + 1) (.string ⟨#[]⟩)).setIfInBounds (i * 3 + 2) (.bool true) = (chCells (laidN k (i + 1))).toArray := by
  apply Array.toList_inj.1
  rw [Array.toList_setIfInBounds, Array.toList_setIfInBounds, Array.toList_setIfInBounds]
  have e1 : laidN k i = List.replicate i ck ++ ([cz] ++ List.replicate (k - (i + 1)) cz) := by
    unfold laidN
    rw [show k - i = (k - (i + 1)) + 1 by omega, List.replicate_succ]; rfl
  have e2 : laidN k (i + 1) = List.replicate i ck ++ ([ck] ++ List.replicate (k - (i + 1)) cz) := by
    unfold laidN
    rw [List.replicate_succ', List.append_assoc]
  rw [e1, e2, chCells_append, chCells_append, chCells_append, chCells_append]
  have hl : (chCells (List.replicate i ck)).length = i * 3 := by rw [chCells_len, List.length_replicate]
  simp only []
  rw [List.set_append_right _ _ (by omega), hl, Nat.sub_self]
  rw [List.set_append_right _ _ (by omega), hl, show i * 3 + 1 - i * 3 = 1 by omega]
  rw [List.set_append_right _ _ (by omega), hl, show i * 3 + 2 - i * 3 = 2 by omega]
  rfl
theorem made_ch (n : Nat) : madeCells (Value.agg #[.string ⟨#[]⟩, .string ⟨#[]⟩, .bool false]).cells (n * 3) = (chCells (laidN n 0)).toArray := by
  apply Array.ext
  · simp [madeCells, chCells_len, laidN]
  · intro i h1 h2
    have hi : i < n * 3 := by simpa [madeCells] using h1
    have hx : (laidN n 0)[i / 3]? = some cz := by
      unfold laidN
      rw [List.replicate_zero, List.nil_append, List.getElem?_replicate, if_pos (by omega)]
    have := flat_at chC 3 chC_len (laidN n 0) (i / 3) cz hx (i % 3) (Nat.mod_lt _ (by decide))
    rw [show i / 3 * 3 + i % 3 = i by omega] at this
    have e : (chCells (laidN n 0)).toArray[i]? = (chC cz)[i % 3]? := by simpa [chCells] using this
    have e2 : (madeCells (Value.agg #[.string ⟨#[]⟩, .string ⟨#[]⟩, .bool false]).cells (n * 3))[i]? = (chC cz)[i % 3]? := by
      have h3 : i % 3 = 0 ∨ i % 3 = 1 ∨ i % 3 = 2 := by omega
      rcases h3 with h3 | h3 | h3 <;> simp [madeCells, hi, h3, chC, cz, Value.cells] <;> rfl
    rw [Array.getElem?_eq_getElem h1] at e2
    rw [Array.getElem?_eq_getElem h2] at e
    rw [← e] at e2
    injection e2
theorem run_make_ch (n : Nat) (hn : n ≤ 1000000) (W : World) : (Instr.makeSlice 54 (.int .i64 (n : Int)) (.int .i64 (n : Int))).run Try.prog W = .ok (.slice (some ⟨W.heap.size, 0, none⟩) n n) (W.alloc (.cells (chCells (laidN n 0)).toArray 63)) := by
  obtain ⟨i, hi, hz, hsz, hby⟩ := info_parts changeInfo
  have h := run_make (P := Try.prog) W 54 63 i (.agg #[.string ⟨#[]⟩, .string ⟨#[]⟩, .bool false]) Try.underlying54 hi hz .i64 .i64 n n (by omega) (by omega) (by rw [hby]; omega) (by omega)
  rw [hsz] at h
  rw [← made_ch]
  simpa only [Int.toNat_natCast] using h
theorem Hp.boxSl {w W : World} {X : List Nat} {rs : List Rs} {i g : Nat} {cs : Array Value} {t : TypeId} (h : Hp w X rs W) (hi : rs[i]? = some (.box g cs t)) (n cap : Nat) (hn : n ≤ 140737488355328) : Sl W (.slice (some ⟨g, 0, none⟩) n cap) n cs.toList :=
  ⟨_, cap, rfl, hn, Or.inr ⟨g, 0, rfl, h.lt hi, fun j v hv => by rw [Nat.zero_add, h.cell hi]; simpa using hv⟩⟩
theorem mayK (k : Nat) (h : 1 ≤ k) : mayL (laidN k k) = decide (k ≤ 256) := by
  have e : laidN k k = List.replicate k ck := by simp [laidN]
  have h1 : (List.replicate k ck).all chOk = true := by rw [List.all_eq_true]; intro x hx; rw [List.eq_of_mem_replicate hx]; decide
  unfold mayL
  rw [e, h1, List.length_replicate, Bool.and_true]
  simp; intro; exact h
theorem recK_len (k : Nat) (h : k ≤ 256) : (recL (laidN k k)).length ≤ 1000 := by
  have e : laidN k k = List.replicate k ck := by simp [laidN]
  have h4 := code.numL_len64 k (by omega)
  have h5 : ∀ n, ((List.replicate n ck).flatMap chB).length = n * 3 := by
    intro n
    induction n with
    | zero => rfl
    | succ n ih =>
      have h6 : (chB ck).length = 3 := by simp [chB, ck, boolL, textL, code.numL_small]
      rw [List.replicate_succ, List.flatMap_cons, List.length_append, ih, h6]; omega
  unfold recL
  rw [e, List.length_append, List.length_replicate, h5]; omega
theorem recL_ne' (l : List Ch) : recL l ≠ [] := by
  unfold recL
  intro h
  have := List.append_eq_nil_iff.1 h
  have h1 := this.1
  rw [code.numL] at h1
  split at h1 <;> simp at h1
set_option maxHeartbeats 4000000 in
theorem walMany_walk (a0 : Int) (w : World) (w0 : (Lit.int .i64 a0).wf = true) :
    Calls Try.prog 12 #[.int .i64 a0] w fun e w' => e = .returned (.bool true) ∧ Below w.heap.size w w' := by
  have e1 := and_15 a0
  obtain ⟨m, hm, hm2⟩ : ∃ m : Nat, a0 % 16 = m ∧ m < 16 := ⟨(a0 % 16).toNat, by omega, by omega⟩
  rw [hm] at e1
  obtain ⟨k, hk, hk1⟩ : ∃ k : Nat, (250 : Int) + (m : Int) = (k : Int) ∧ 250 ≤ k ∧ k ≤ 265 := ⟨250 + m, by omega, by omega, by omega⟩
  have mk := fun W => run_make_ch k (by omega) W
  have hp := (Hp.none_ w []).alloc (chCells (laidN k 0)).toArray 63
  obtain ⟨h1, h2⟩ := hk1
  replace hp := Lib.hid hp
  clear w0 hm
  go_enter Try.func12, Try.ntmps12
  go_wp2
  go_loopw [5] (fun i wr => ∃ j : Nat, j ≤ k ∧ i = .int .i64 (j : Int) ∧ Hp w [] [.box w.heap.size (chCells (laidN k j)).toArray 63] wr) (fun i _ => k - (intOf i).toNat)
  case atStart => exact ⟨0, by omega, rfl, hp.out⟩
  case round =>
    clear hp
    obtain ⟨j, hj, rfl, hp⟩ := hrel
    by_cases hlt : j < k
    · have hcell : ∀ q, q < k * 3 → ∃ v, wr.cell? ⟨w.heap.size, q, none⟩ = some v := fun q hq => by
        rw [hp.cell (i := 0) rfl q]
        have : q < (chCells (laidN k j)).toArray.size := by rw [List.size_toArray, chCells_len, laidN_len k j hj]; exact hq
        exact ⟨_, Array.getElem?_eq_getElem this⟩
      obtain ⟨v0, d0⟩ := hcell (j * 3) (by omega)
      obtain ⟨v1, d1⟩ := hcell (j * 3 + 1) (by omega)
      obtain ⟨v2, d2⟩ := hcell (j * 3 + 2) (by omega)
      have f0 := hp.free (i := 0) rfl (j * 3)
      have f1 := hp.free (i := 0) rfl (j * 3 + 1)
      have f2 := hp.free (i := 0) rfl (j * 3 + 2)
      have hp2 := ((hp.put (i := 0) rfl (j * 3) (.string ⟨#[107]⟩)).put (i := 0) rfl (j * 3 + 1) (.string ⟨#[]⟩)).put (i := 0) rfl (j * 3 + 2) (.bool true)
      have e1 : (0 : Int) ≤ (j : Int) := by omega
      have e2 : (j : Int) < (k : Int) := by omega
      replace hp2 := Lib.hid hp2
      clear hp hcell
      go_wp2
      go_roundw
      case rel => exact ⟨j + 1, by omega, by go_num, by rw [← laid_put k j hlt]; exact hp2.out⟩
      case measure => simp [intOf]; omega
    · obtain rfl : j = k := by omega
      have hs : ∀ W, Below wr.heap.size wr W → Sl W (.slice (some ⟨w.heap.size, 0, none⟩) j j) (laidN j j).length (chCells (laidN j j)) := fun W b => by
        have := (Hp.boxSl hp (i := 0) rfl j j (by omega)).below b
        rw [laidN_len j j (Nat.le_refl _)]
        simpa using this
      have hb := Lib.hid (Below.refl wr.heap.size wr)
      have hbel := Lib.hid hp.bel
      have hput := fun W b => put_any _ (laidN j j) W (hs W b)
      have hnone : ∀ W, Calls Try.prog 63 #[.slice none 0 0] W fun e w' => e = .returned (.string ⟨#[]⟩) ∧ Below W.heap.size W w' := fun W => by
        have := put_any (.slice none 0 0) [] W (Sl.nil W)
        have e : putL [] = [] := by unfold putL; rw [if_neg (by simp [mayL])]
        rwa [e] at this
      have hmay := mayK j (by omega)
      by_cases h6 : j ≤ 256
      · have hmt : mayL (laidN j j) = true := by rw [hmay]; simpa using h6
        have hlen := recK_len j h6
        have hpl : putL (laidN j j) = recL (laidN j j) := by unfold putL; rw [if_pos ⟨hmt, by omega⟩]
        have hget := fun W => get_rec (laidN j j) hmt (by omega) W
        have hne := recL_ne' (laidN j j)
        rw [hpl] at hput
        generalize recL (laidN j j) = M at *
        have n1 : M.isEmpty = false := by cases M <;> simp at hne ⊢
        have n2 : (M == []) = false := by simpa using hne
        have n5 : (M != []) = true := by simpa using hne
        have g1 : (j : Int) ≤ 256 := by omega
        replace hput := Lib.hid hput; replace hget := Lib.hid hget; replace hnone := Lib.hid hnone; replace hne := Lib.hid hne
        clear hs hp hmay hmt hlen hpl
        go_wp2_with (first
          | (go_at_call 63; (with_reducible refine (hput.out _ hb.out).mono ?_); rintro e w2 ⟨rfl, b2⟩; replace hb := Lib.hid (belowCont hb.out b2); clear b2)
          | (go_at_call 64; (with_reducible refine (hget.out _).mono ?_); rintro e w2 ⟨v2, rfl, h2⟩; replace hb := Lib.hid (belowCont hb.out h2.bel); clear h2)
          | (go_at_call 65; (with_reducible refine (awake_any _).mono ?_); rintro e w2 ⟨rfl, b2⟩; replace hb := Lib.hid (belowCont hb.out b2); clear b2)
          | (go_at_call 63; (with_reducible refine (hnone.out _).mono ?_); rintro e w2 ⟨rfl, b2⟩; replace hb := Lib.hid (belowCont hb.out b2); clear b2))
        go_ret
        exact ⟨rfl, belowCont hbel.out hb.out⟩
      · have hmt : mayL (laidN j j) = false := by rw [hmay]; simpa using h6
        have hpl : putL (laidN j j) = [] := by unfold putL; rw [if_neg (by simp [hmt])]
        have hput' : ∀ W, Below wr.heap.size wr W → Calls Try.prog 63 #[.slice (some ⟨w.heap.size, 0, none⟩) j j] W fun e w' => e = .returned (.string ⟨#[]⟩) ∧ Below W.heap.size W w' := fun W b => by
          have := hput W b
          rwa [hpl] at this
        have g1 : decide ((j : Int) ≤ 256) = false := by simp; omega
        replace hput' := Lib.hid hput'; replace hnone := Lib.hid hnone
        clear hs hp hmay hmt hpl hput
        go_wp2_with (first
          | (go_at_call 63; (with_reducible refine (hput'.out _ hb.out).mono ?_); rintro e w2 ⟨rfl, b2⟩; replace hb := Lib.hid (belowCont hb.out b2); clear b2)
          | (go_at_call 64; (with_reducible refine (get_empty _).mono ?_); rintro e w2 ⟨rfl, b2⟩; replace hb := Lib.hid (belowCont hb.out b2); clear b2)
          | (go_at_call 65; (with_reducible refine (awake_any _).mono ?_); rintro e w2 ⟨rfl, b2⟩; replace hb := Lib.hid (belowCont hb.out b2); clear b2)
          | (go_at_call 63; (with_reducible refine (hnone.out _).mono ?_); rintro e w2 ⟨rfl, b2⟩; replace hb := Lib.hid (belowCont hb.out b2); clear b2))
        go_ret
        exact ⟨rfl, belowCont hbel.out hb.out⟩
end Go.Proofs.Ytoghijgcnodkfaa.wal
