/- A page's name (api.Ref) as the key of a map. No condition. -/
import Derived.Test.YtcdcipfojfnblaaGreatDoorBase
import Derived.DeepKeys4
import Derived.Maps.Own
namespace Go.Proofs.YtcdcipfojfnblaaGreatDoor.pager
open Go.RowKit
set_option linter.unusedVariables false
set_option maxRecDepth 100000

theorem laidOut : laidOutB Tryz.prog = true := by kernel_rfl
theorem rowRef : (34 : TypeId) < Tryz.prog.types.size := of_decide_eq_true (by kernel_rfl)
theorem wideRef : (match Tryz.prog.underlying 34 with | some (.array _ _) | some (.struct _) => true | _ => false) = true := by kernel_rfl
theorem deepRef : Tryz.prog.keyTypeAt 3 34 = true := by kernel_rfl
theorem typeRef : Tryz.prog.keyType 34 = true := by kernel_rfl
theorem cellsRef : Tryz.prog.cellsOf 34 = 2 := by kernel_rfl
theorem lawRef : WideMaps.KeyLaw Tryz.prog 34 := deep_law_laid laidOut (m := 3) (by omega) rowRef deepRef wideRef
theorem keyedRef : Maps.Keyed Tryz.prog 34 := Maps.Keyed.of_law lawRef
def rk (pl : Int) (s : List UInt8) : List UInt8 := keyBytes [.int .i64 pl, .string s]
theorem sizePos : ∃ m, Tryz.prog.types.size = m + 1 := by
  have h := rowRef
  exact ⟨Tryz.prog.types.size - 1, (Nat.sub_add_cancel (Nat.lt_of_le_of_lt (Nat.zero_le _) h)).symm⟩
theorem litInt (m : Nat) (pl : Int) (hp : (Lit.int .i64 pl).wf = true) : Tryz.prog.keyLits (m + 1) 3 [.int .i64 pl] = some [.int .i64 pl] := by
  have hu := Tryz.underlying3
  unfold Program.keyLits
  simp only [hu]
  simp [hp]
theorem litStr (m : Nat) (s : ByteArray) (hs : s.size ≤ maxLen) : Tryz.prog.keyLits (m + 1) 9 [.string s] = some [.string s.data.toList] := by
  have hu := Tryz.underlying9
  unfold Program.keyLits
  simp only [hu]
  simp [hs]
theorem cellsInt : Tryz.prog.cellsOf 3 = 1 := by kernel_rfl
theorem cellsStr : Tryz.prog.cellsOf 9 = 1 := by kernel_rfl
theorem keyRef (pl : Int) (hp : (Lit.int .i64 pl).wf = true) (s : ByteArray) (hs : s.size ≤ maxLen) : keyOf Tryz.prog 34 (.agg #[.int .i64 pl, .string s]) = some (.string (rk pl s.data.toList)) := by
  obtain ⟨m, hm⟩ := sizePos
  have hf : (Value.agg #[.int .i64 pl, .string s]).formed Tryz.prog 34 = true := by simp [Value.formed, Tryz.underlying34, cellsRef]
  have hu := Tryz.underlying34
  have e : Tryz.prog.keyLits (Tryz.prog.types.size + 1) 34 [.int .i64 pl, .string s] = some [.int .i64 pl, .string s.data.toList] := by
    rw [hm]
    unfold Program.keyLits
    simp only [hu]
    simp [cellsRef, cellsInt, cellsStr, litInt m pl hp, litStr m s hs]
  unfold keyOf
  rw [hu]
  simp only [typeRef, hf, Bool.and_self, if_true]
  rw [show (Value.agg #[.int .i64 pl, .string s]).cells.toList = [.int .i64 pl, .string s] from rfl, e]
  rfl
theorem rk_inj {a b : Int} (ha : (Lit.int .i64 a).wf = true) (hb : (Lit.int .i64 b).wf = true) {s t : List UInt8} (hs : s.length ≤ 1000000000) (ht : t.length ≤ 1000000000) (h : rk a s = rk b t) : a = b ∧ s = t := by
  have h1 := keyRef a ha ⟨s.toArray⟩ (by simp [ByteArray.size]; unfold maxLen; omega)
  have h2 := keyRef b hb ⟨t.toArray⟩ (by simp [ByteArray.size]; unfold maxLen; omega)
  simp only [List.toList_toArray] at h1 h2
  rw [← h] at h2
  have := keyedRef.inj h1 h2
  injection this with this
  simp at this
  exact this
end Go.Proofs.YtcdcipfojfnblaaGreatDoor.pager
