/- The words of the texts of QueryMost, piece by piece. No condition. -/
import Derived.Test.YtgbkpkioijbgoaaDoorQryP
namespace Go.Proofs.YtgbkpkioijbgoaaDoor.qry
open lex (W wordsF wordsL)
set_option linter.unusedVariables false
set_option maxRecDepth 100000
/-- words one behind the other -/
def app (acc : List W) : List W → List W
  | [] => acc
  | x :: t => app (acc ++ [x]) t
theorem app_eq : ∀ (l acc : List W), app acc l = acc ++ l
  | [], acc => by rw [app, List.append_nil]
  | x :: t, acc => by rw [app, app_eq t, List.append_assoc]; rfl
def edge6 (p : Nat) : List W := [⟨4, [45], 0, p⟩, ⟨4, [91], 0, p + 1⟩, ⟨4, [93], 0, p + 2⟩, ⟨4, [45, 62], 0, p + 3⟩, ⟨4, [40], 0, p + 5⟩, ⟨4, [41], 0, p + 6⟩]
def head4 (p : Nat) : List W := [⟨1, [102, 105, 110, 100], 0, p⟩, ⟨4, [40], 0, p + 5⟩, ⟨1, [97], 0, p + 6⟩, ⟨4, [41], 0, p + 7⟩]
def where6 (p : Nat) : List W := [⟨1, [119, 104, 101, 114, 101], 0, p + 1⟩, ⟨1, [97], 0, p + 7⟩, ⟨4, [46], 0, p + 8⟩, ⟨1, [107], 0, p + 9⟩, ⟨4, [61], 0, p + 11⟩, ⟨2, [], 1, p + 13⟩]
def and6 (p : Nat) : List W := [⟨1, [97, 110, 100], 0, p + 1⟩, ⟨1, [97], 0, p + 5⟩, ⟨4, [46], 0, p + 6⟩, ⟨1, [107], 0, p + 7⟩, ⟨4, [61], 0, p + 9⟩, ⟨2, [], 1, p + 11⟩]
def tell2 (p : Nat) : List W := [⟨1, [116, 101, 108, 108], 0, p + 1⟩, ⟨1, [97], 0, p + 6⟩]
def item4 (p : Nat) : List W := [⟨4, [44], 0, p⟩, ⟨1, [97], 0, p + 1⟩, ⟨4, [46], 0, p + 2⟩, ⟨1, [107], 0, p + 3⟩]
def lim2 (n p : Nat) : List W := [⟨1, [108, 105, 109, 105, 116], 0, p + 1⟩, ⟨2, [], n, p + 7⟩]
theorem lx_edge (f pos : Nat) (r : List UInt8) (acc : List W) : wordsF (f + 6) (edgeT ++ r) pos acc = wordsF f r (pos + 7) (app acc (edge6 pos)) := by kernel_rfl
theorem lx_head (f pos : Nat) (r : List UInt8) (acc : List W) : wordsF (f + 5) ([102, 105, 110, 100, 32, 40, 97, 41] ++ r) pos acc = wordsF f r (pos + 8) (app acc (head4 pos)) := by kernel_rfl
theorem lx_where (f pos : Nat) (r : List UInt8) (acc : List W) : wordsF (f + 10) (([32, 119, 104, 101, 114, 101] ++ [32, 97, 46, 107, 32, 61, 32, 49]) ++ (32 :: r)) pos acc = wordsF f (32 :: r) (pos + 14) (app acc (where6 pos)) := by kernel_rfl
theorem lx_and (f pos : Nat) (r : List UInt8) (acc : List W) : wordsF (f + 10) (([32, 97, 110, 100] ++ [32, 97, 46, 107, 32, 61, 32, 49]) ++ (32 :: r)) pos acc = wordsF f (32 :: r) (pos + 12) (app acc (and6 pos)) := by kernel_rfl
theorem lx_tell (f pos : Nat) (r : List UInt8) (acc : List W) (h : r = [] ∨ (∃ t, r = 44 :: t) ∨ ∃ t, r = 32 :: t) : wordsF (f + 4) ([32, 116, 101, 108, 108, 32, 97] ++ r) pos acc = wordsF f r (pos + 7) (app acc (tell2 pos)) := by
  rcases h with rfl | ⟨t, rfl⟩ | ⟨t, rfl⟩
  · kernel_rfl
  · kernel_rfl
  · kernel_rfl
theorem lx_item (f pos : Nat) (r : List UInt8) (acc : List W) (h : r = [] ∨ (∃ t, r = 44 :: t) ∨ ∃ t, r = 32 :: t) : wordsF (f + 4) ([44, 97, 46, 107] ++ r) pos acc = wordsF f r (pos + 4) (app acc (item4 pos)) := by
  rcases h with rfl | ⟨t, rfl⟩ | ⟨t, rfl⟩
  · kernel_rfl
  · kernel_rfl
  · kernel_rfl
theorem lx_256 (f pos : Nat) (acc : List W) : wordsF (f + 5) lim256T pos acc = (some (app (app acc (lim2 256 pos)) [⟨0, [], 0, pos + 10⟩]), 0) := by kernel_rfl
theorem lx_257 (f pos : Nat) (acc : List W) : wordsF (f + 5) lim257T pos acc = (some (app (app acc (lim2 257 pos)) [⟨0, [], 0, pos + 10⟩]), 0) := by kernel_rfl
theorem lx_end (f pos : Nat) (acc : List W) : wordsF f [] pos acc = (some (app acc [⟨0, [], 0, pos⟩]), 0) := by
  cases f <;> rfl
end Go.Proofs.YtgbkpkioijbgoaaDoor.qry
