/- A slice of one byte as a text, behind calls and draws. No condition. -/
import Derived.Test.YtgbkpkioijbgoaaDoorBytes
namespace Go.Proofs.YtgbkpkioijbgoaaDoor
open Go.RowKit
theorem conv_at (W : World) (q cap : Nat) (n : Int) (h : W.cell? ⟨q, 0, none⟩ = some (.int .u8 n)) : (convert 129 9 (.slice (some ⟨q, 0, none⟩) 1 cap)).run Tryd.prog W = .ok (.string (str [UInt8.ofNat n.toNat])) W := by
  rw [run_convert_bytes_arg (P := Tryd.prog) W 129 5 Tryd.underlying129 Tryd.underlying5 q 0 1 cap [n] rfl (fun i hi => by
    obtain rfl : i = 0 := by omega
    exact h) 9 Tryd.underlying9]
  rfl
theorem conv_one_drew (W : World) (n : Int) : (convert 129 9 (.slice (some ⟨W.heap.size, 0, none⟩) 1 1)).run Tryd.prog (W.alloc (.cells #[.int .u8 n] 5)).drew = .ok (.string (str [UInt8.ofNat n.toNat])) (W.alloc (.cells #[.int .u8 n] 5)).drew :=
  conv_at _ _ _ _ (newCell W _ _ 0)
theorem cut_extract (l : List UInt8) (a b : Nat) : (str l).extract a b = str ((l.drop a).take (b - a)) := by
  apply ByteArray.ext; simp [str, ByteArray.data_extract]
/-- what a law cuts a text to -/
theorem cut_text (s : ByteArray) (k : Nat) : s.extract 0 k = str (s.data.toList.take k) := by
  have := cut_extract s.data.toList 0 k
  rw [str_of] at this; rw [this]; simp
theorem cut_whole (s : ByteArray) (k : Nat) (h : s.size ≤ k) : s.extract 0 s.size = str (s.data.toList.take k) := by
  rw [cut_text]; congr 1
  have hl : s.data.toList.length = s.size := by rw [Array.length_toList]; rfl
  rw [List.take_of_length_le (show s.data.toList.length ≤ s.size by omega), List.take_of_length_le (show s.data.toList.length ≤ k by omega)]
end Go.Proofs.YtgbkpkioijbgoaaDoor
