/- What sessions hold: whether nobody holds a thing any more; how many things there are. No condition. -/
import Derived.Test.YtmlphodmbkceoabLock2
import Derived.ChangeKeysEq
import Derived.Laws.StructEq
import Derived.Sort.MapsRangeIn
namespace Go.Proofs.Ytmlphodmbkceoab.lock
open Go.RowKit
set_option linter.unusedVariables false
set_option maxRecDepth 100000

theorem eqItems_ints (d : Nat) (f k : Nat → Nat) (w : World) : ∀ is : List Nat, (∀ i, i ∈ is → i < 16) → (Op.eqItems (d + 1) 3 1 (cells16 f).toArray (cells16 k).toArray is).run Try.prog w = .ok (is.all fun i => f i == k i) w
  | [], _ => by simp [Op.eqItems]
  | i :: is, h => by
    have hi := h i (by simp)
    have ih := eqItems_ints d f k w is (fun j hj => h j (by simp [hj]))
    have hpk : Try.prog.plainKey 3 = true := by kernel_rfl
    have p1 : (part 3 (cells16 f).toArray (i * 1)).run Try.prog w = .ok (.int .i64 (f i : Int)) w := Go.run_part_plain w hpk (by rw [Nat.mul_one]; simpa using cells16_at f hi)
    have p2 : (part 3 (cells16 k).toArray (i * 1)).run Try.prog w = .ok (.int .i64 (k i : Int)) w := Go.run_part_plain w hpk (by rw [Nat.mul_one]; simpa using cells16_at k hi)
    have p3 : (Op.equalIn (d + 1) 3 (.int .i64 (f i : Int)) (.int .i64 (k i : Int))).run Try.prog w = .ok ((f i : Int) == (k i : Int)) w := run_equalIn_int w d 3 .i64 .i64 _ _ Try.underlying3
    have e : ((f i : Int) == (k i : Int)) = (f i == k i) := by rw [Bool.eq_iff_iff]; simp; omega
    rw [e] at p3
    simp only [Op.eqItems, Sem.run_bind, p1, p2, p3, Result.andThen_ok, List.all_cons]
    cases hq : (f i == k i) with
    | false => simp
    | true => simpa using ih
theorem run_eql_hold (f k : Nat → Nat) (w : World) : (binOp .eql 91 (.agg (cells16 f).toArray) (.agg (cells16 k).toArray)).run Try.prog w = .ok (.bool ((List.range 16).all fun i => f i == k i)) w := by
  obtain ⟨i, hi⟩ : ∃ i, Try.prog.info? 3 = some i := by
    have h : (Try.prog.info? 3).isSome = true := by kernel_rfl
    exact Option.isSome_iff_exists.1 h
  have hc : Try.prog.cellsOf 3 = 1 := by kernel_rfl
  rw [run_eql_struct, run_equalIn_array (w := w) 9999 _ _ Try.underlying91 hi, hc, eqItems_ints 9998 f k w _ (fun i hi => by simpa using hi)]
  rfl
theorem all_zero (f : Nat → Nat) : ((List.range 16).all fun i => f i == 0) = !anyH f := by
  unfold anyH
  rw [Bool.eq_iff_iff]
  simp [List.all_eq_true]
theorem len_le {α : Type} [BEq α] [LawfulBEq α] : ∀ (L K : List α), L.Nodup → (∀ x, x ∈ L → x ∈ K) → L.length ≤ K.length
  | [], _, _, _ => Nat.zero_le _
  | x :: L, K, h, hs => by
    rw [List.nodup_cons] at h
    have hx := hs x (by simp)
    have ih := len_le L (K.erase x) h.2 (fun y hy => (List.mem_erase_of_ne (fun e => h.1 (by rw [← e]; exact hy))).2 (hs y (by simp [hy])))
    rw [List.length_erase_of_mem hx] at ih
    have := List.length_pos_of_mem hx
    simp; omega
def unS : Lit → List UInt8
  | .string k => k
  | _ => []
/-- a map's entries are those of keys that it has -/
theorem size_of_keys {w : World} {m c : Nat} {D : DataW Unit} (h : w.ownsMap Try.prog 9 holdElem m c D) (K : List (List UInt8)) (hK : K.Nodup) (hall : ∀ k, Maps.has D (.string k) = true ↔ k ∈ K) : Maps.size D = K.length := by
  have kst : Maps.Keyed Try.prog 9 := Maps.string_keyed Try.underlying9
  obtain ⟨es, hes, hp, _⟩ := h.entries kst
  have hstr : ∀ p, p ∈ es → p.1 = .string (unS p.1) := by
    obtain ⟨es0, clock, hb, F, hs, hD⟩ := h
    rw [hD] at hes
    injection hes with hes
    intro p hpm
    rw [← hes, mem_sorted] at hpm
    obtain ⟨x, hx, rfl⟩ := List.mem_map.1 hpm
    obtain ⟨y, hy⟩ := F.reads x hx
    have hk := Go.WideElems.rd_key hy
    rw [Go.WideElems.rg_of hy]
    obtain ⟨s, hs2⟩ := Maps.keyOf_string_inv Try.underlying9 hk
    rw [hs2] at hk
    simp [keyOf, Try.underlying9, mapKey] at hk
    first | (obtain ⟨_, hk⟩ := hk; rw [← hk]; rfl) | (rw [← hk]; rfl)
  subst hes
  have hhas : ∀ k, Maps.has (.map es : DataW Unit) (.string k) = true ↔ k ∈ es.map fun p => unS p.1 := by
    intro k
    rw [Maps.has_eq, List.any_eq_true, List.mem_map]
    constructor
    · rintro ⟨p, hpm, hk⟩
      have := WideAt.sameKey_eq hk
      exact ⟨p, hpm, by rw [this]; rfl⟩
    · rintro ⟨p, hpm, rfl⟩
      refine ⟨p, hpm, ?_⟩
      rw [hstr p hpm]
      exact WideAt.sameKey_self (show WideAt.IsKeyLit (Lit.string _) from trivial)
  have hnd : (es.map fun p => unS p.1).Nodup := by
    rw [List.Nodup, List.pairwise_map]
    refine hp.imp_of_mem ?_
    intro p q hpm hqm hne e
    exact hne (by rw [hstr p hpm, hstr q hqm, e])
  have h1 := len_le _ K hnd (fun x hx => (hall x).1 ((hhas x).2 hx))
  have h2 := len_le K _ hK (fun x hx => (hhas x).1 ((hall x).2 hx))
  rw [List.length_map] at h1 h2
  rw [Maps.size_eq]; omega
end Go.Proofs.Ytmlphodmbkceoab.lock
