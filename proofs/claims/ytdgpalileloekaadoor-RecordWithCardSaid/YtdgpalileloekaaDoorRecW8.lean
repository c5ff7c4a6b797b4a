/- The first statement of the law RecordWith, by one invariant: a thing with its rows and a value are each a call's result, and are laid in two boxes. No condition. -/
import Derived.Test.YtdgpalileloekaaDoorRecW7
import Derived.Test.YtdgpalileloekaaDoorRegTwo
namespace Go.Proofs.YtdgpalileloekaaDoor
theorem Hp.suffix {w W : World} {X : List Nat} {base : List Rs} : ∀ (A : List Rs), Hp w X (A ++ base) W → Hp w X base W
  | [], h => h
  | a :: A, h => Hp.suffix A (by have := h.drop 0; simpa using this)
end Go.Proofs.YtdgpalileloekaaDoor
namespace Go.Proofs.YtdgpalileloekaaDoor.recw
open Go.RowKit
set_option linter.unusedVariables false
set_option linter.unusedSimpArgs false
set_option maxRecDepth 100000

def rowsA (b : Bool) (la pr : Value) (L : List Int) (P : List Pr) : List Rs := if b then [.row 3 1 la L.length (inC L), .row 42 4 pr P.length (prC P)] else []
def thZ : Array Value := #[.bool false, .slice none 0 0, .int .i64 0, .int .u64 0, .int .u64 0, .slice none 0 0]
def boxT (b4 b6 : Bool) (g : Nat) (C : Array Value) : List Rs := if b4 then [.box g (if b6 then C else thZ) 26] else []
def boxV (b5 b7 : Bool) (g : Nat) (D : Array Value) : List Rs := if b5 then [.box g (if b7 then D else #[.int .i64 0, .int .i64 0, .string ⟨#[]⟩]) 37] else []
theorem perm_mid2 (A B base : List Rs) (x : Rs) : (x :: (A ++ (B ++ base))).Perm (A ++ (B ++ x :: base)) := by
  have := (List.perm_middle (a := x) (l₁ := A ++ B) (l₂ := base)).symm
  simpa [List.append_assoc] using this
structure I1 (w : World) (base : List Rs) (u v y : Value) (ed : Bool) (D : Array Value) (l : Array Bool) (s7 s8 s14 s15 s16 s17 : Value) (W : World) (la pr : Value) (L : List Int) (P : List Pr) (ty fm tw : Int) (g7 g8 : Nat) (b1 b4 b5 b6 b7 : Bool) : Prop where
  v14 : has l 0 → s14 = u
  v16 : has l 2 → s16 = v
  v17 : has l 3 → s17 = y
  h1 : has l 1 ↔ b1 = true
  h4 : has l 4 ↔ b4 = true
  h5 : has l 5 ↔ b5 = true
  h6 : has l 6 ↔ b6 = true
  h7 : has l 7 ↔ b7 = true
  o6 : b6 = true → b1 = true ∧ b4 = true
  o7 : b7 = true → b5 = true
  s1 : b1 = true → s15 = thV ed la ty fm tw pr ∧ L.length ≤ 10 ∧ P.length ≤ 18 ∧ Rise P
  s4 : b4 = true → s7 = .pointer (some ⟨g7, 0, none⟩)
  s5 : b5 = true → s8 = .pointer (some ⟨g8, 0, none⟩)
  hp : Hp w [] (rowsA b1 la pr L P ++ (boxT b4 b6 g7 #[.bool ed, la, .int .i64 ty, .int .u64 fm, .int .u64 tw, pr] ++ (boxV b5 b7 g8 D ++ base))) W
section
variable {w : World} {base : List Rs} {u v y : Value} {ed : Bool} {D : Array Value} {l : Array Bool} {s7 s8 s14 s15 s16 s17 : Value} {W W2 : World} {la pr : Value} {L : List Int} {P : List Pr} {ty fm tw : Int} {g7 g8 : Nat} {b1 b4 b5 b6 b7 : Bool}
theorem I1.base_ (h : I1 w base u v y ed D l s7 s8 s14 s15 s16 s17 W la pr L P ty fm tw g7 g8 b1 b4 b5 b6 b7) : Hp w [] base W := Hp.suffix _ (Hp.suffix _ (Hp.suffix _ h.hp))
theorem I1.start (h : Hp w [] base W) : I1 w base u v y ed D (Array.replicate 8 false) s7 s8 s14 s15 s16 s17 W (.slice none 0 0) (.slice none 0 0) [] [] 0 0 0 0 0 false false false false false :=
  ⟨fun h => absurd h (has_none _ _), fun h => absurd h (has_none _ _), fun h => absurd h (has_none _ _), by simp [has_none], by simp [has_none], by simp [has_none], by simp [has_none], by simp [has_none], by simp, by simp, by simp, by simp, by simp, h⟩
theorem un {b : Bool} {i : Nat} (hun : l.getD i true = false) (h : has l i ↔ b = true) : b = false := by
  have := has_not hun
  cases b with
  | true => exact absurd (h.2 rfl) this
  | false => rfl
theorem I1.t0 (h : I1 w base u v y ed D l s7 s8 s14 s15 s16 s17 W la pr L P ty fm tw g7 g8 b1 b4 b5 b6 b7) : I1 w base u v y ed D (l.setIfInBounds 0 true) s7 s8 u s15 s16 s17 W la pr L P ty fm tw g7 g8 b1 b4 b5 b6 b7 :=
  have e : ∀ j, j ≠ 0 → (has (l.setIfInBounds 0 true) j ↔ has l j) := fun j h => has_other (Ne.symm h)
  ⟨fun _ => rfl, fun q => h.v16 ((e 2 (by decide)).1 q), fun q => h.v17 ((e 3 (by decide)).1 q), (e 1 (by decide)).trans h.h1, (e 4 (by decide)).trans h.h4, (e 5 (by decide)).trans h.h5, (e 6 (by decide)).trans h.h6, (e 7 (by decide)).trans h.h7, h.o6, h.o7, h.s1, h.s4, h.s5, h.hp⟩
theorem I1.t2 (h : I1 w base u v y ed D l s7 s8 s14 s15 s16 s17 W la pr L P ty fm tw g7 g8 b1 b4 b5 b6 b7) : I1 w base u v y ed D (l.setIfInBounds 2 true) s7 s8 s14 s15 v s17 W la pr L P ty fm tw g7 g8 b1 b4 b5 b6 b7 :=
  have e : ∀ j, j ≠ 2 → (has (l.setIfInBounds 2 true) j ↔ has l j) := fun j h => has_other (Ne.symm h)
  ⟨fun q => h.v14 ((e 0 (by decide)).1 q), fun _ => rfl, fun q => h.v17 ((e 3 (by decide)).1 q), (e 1 (by decide)).trans h.h1, (e 4 (by decide)).trans h.h4, (e 5 (by decide)).trans h.h5, (e 6 (by decide)).trans h.h6, (e 7 (by decide)).trans h.h7, h.o6, h.o7, h.s1, h.s4, h.s5, h.hp⟩
theorem I1.t3 (h : I1 w base u v y ed D l s7 s8 s14 s15 s16 s17 W la pr L P ty fm tw g7 g8 b1 b4 b5 b6 b7) (k : Below W.heap.size W W2) : I1 w base u v y ed D (l.setIfInBounds 3 true) s7 s8 s14 s15 s16 y W2 la pr L P ty fm tw g7 g8 b1 b4 b5 b6 b7 :=
  have e : ∀ j, j ≠ 3 → (has (l.setIfInBounds 3 true) j ↔ has l j) := fun j h => has_other (Ne.symm h)
  ⟨fun q => h.v14 ((e 0 (by decide)).1 q), fun q => h.v16 ((e 2 (by decide)).1 q), fun _ => rfl, (e 1 (by decide)).trans h.h1, (e 4 (by decide)).trans h.h4, (e 5 (by decide)).trans h.h5, (e 6 (by decide)).trans h.h6, (e 7 (by decide)).trans h.h7, h.o6, h.o7, h.s1, h.s4, h.s5, h.hp.below k⟩
theorem I1.t1 {la' pr' : Value} {L' : List Int} {P' : List Pr} {ty' fm' tw' : Int} (h : I1 w base u v y ed D l s7 s8 s14 s15 s16 s17 W la pr L P ty fm tw g7 g8 b1 b4 b5 b6 b7) (hun : l.getD 1 true = false) (hL : L'.length ≤ 10) (hP : P'.length ≤ 18) (hR : Rise P') (k : Hp W [] [.row 3 1 la' L'.length (inC L'), .row 42 4 pr' P'.length (prC P')] W2) :
    I1 w base u v y ed D (l.setIfInBounds 1 true) s7 s8 s14 (thV ed la' ty' fm' tw' pr') s16 s17 W2 la' pr' L' P' ty' fm' tw' g7 g8 true b4 b5 false b7 := by
  have e : ∀ j, j ≠ 1 → (has (l.setIfInBounds 1 true) j ↔ has l j) := fun j h => has_other (Ne.symm h)
  have hb := un hun h.h1
  subst hb
  have hb6 : b6 = false := by
    cases b6 with
    | false => rfl
    | true => exact absurd (h.o6 rfl).1 (by decide)
  subst hb6
  refine ⟨fun q => h.v14 ((e 0 (by decide)).1 q), fun q => h.v16 ((e 2 (by decide)).1 q), fun q => h.v17 ((e 3 (by decide)).1 q), ⟨fun _ => rfl, fun _ => has_self hun⟩, (e 4 (by decide)).trans h.h4, (e 5 (by decide)).trans h.h5, (e 6 (by decide)).trans h.h6, (e 7 (by decide)).trans h.h7, fun q => absurd q (by decide), h.o7, fun _ => ⟨rfl, hL, hP, hR⟩, h.s4, h.s5, ?_⟩
  exact h.hp.take k
theorem I1.t4 (h : I1 w base u v y ed D l s7 s8 s14 s15 s16 s17 W la pr L P ty fm tw g7 g8 b1 b4 b5 b6 b7) (hun : l.getD 4 true = false) :
    I1 w base u v y ed D (l.setIfInBounds 4 true) (.pointer (some ⟨W.heap.size, 0, none⟩)) s8 s14 s15 s16 s17 (W.alloc (.cells thZ 26)) la pr L P ty fm tw W.heap.size g8 b1 true b5 false b7 := by
  have e : ∀ j, j ≠ 4 → (has (l.setIfInBounds 4 true) j ↔ has l j) := fun j h => has_other (Ne.symm h)
  have hb := un hun h.h4
  subst hb
  have hb6 : b6 = false := by
    cases b6 with
    | false => rfl
    | true => exact absurd (h.o6 rfl).2 (by decide)
  subst hb6
  refine ⟨fun q => h.v14 ((e 0 (by decide)).1 q), fun q => h.v16 ((e 2 (by decide)).1 q), fun q => h.v17 ((e 3 (by decide)).1 q), (e 1 (by decide)).trans h.h1, ⟨fun _ => rfl, fun _ => has_self hun⟩, (e 5 (by decide)).trans h.h5, (e 6 (by decide)).trans h.h6, (e 7 (by decide)).trans h.h7, fun q => absurd q (by decide), h.o7, h.s1, fun _ => rfl, h.s5, ?_⟩
  exact (h.hp.alloc thZ 26).perm List.perm_middle.symm
theorem I1.t5 (h : I1 w base u v y ed D l s7 s8 s14 s15 s16 s17 W la pr L P ty fm tw g7 g8 b1 b4 b5 b6 b7) (hun : l.getD 5 true = false) :
    I1 w base u v y ed D (l.setIfInBounds 5 true) s7 (.pointer (some ⟨W.heap.size, 0, none⟩)) s14 s15 s16 s17 (W.alloc (.cells #[.int .i64 0, .int .i64 0, .string ⟨#[]⟩] 37)) la pr L P ty fm tw g7 W.heap.size b1 b4 true b6 false := by
  have e : ∀ j, j ≠ 5 → (has (l.setIfInBounds 5 true) j ↔ has l j) := fun j h => has_other (Ne.symm h)
  have hb := un hun h.h5
  subst hb
  have hb7 : b7 = false := by
    cases b7 with
    | false => rfl
    | true => exact absurd (h.o7 rfl) (by decide)
  subst hb7
  refine ⟨fun q => h.v14 ((e 0 (by decide)).1 q), fun q => h.v16 ((e 2 (by decide)).1 q), fun q => h.v17 ((e 3 (by decide)).1 q), (e 1 (by decide)).trans h.h1, (e 4 (by decide)).trans h.h4, ⟨fun _ => rfl, fun _ => has_self hun⟩, (e 6 (by decide)).trans h.h6, (e 7 (by decide)).trans h.h7, h.o6, fun q => absurd q (by decide), h.s1, h.s4, fun _ => rfl, ?_⟩
  have h1 := h.hp.alloc #[.int .i64 0, .int .i64 0, .string ⟨#[]⟩] 37
  exact h1.perm (perm_mid2 _ _ _ _)
theorem I1.t6 (h : I1 w base u v y ed D l s7 s8 s14 s15 s16 s17 W la pr L P ty fm tw g7 g8 b1 b4 b5 b6 b7) (hun : l.getD 6 true = false) (q1 : b1 = true) (q4 : b4 = true) :
    I1 w base u v y ed D (l.setIfInBounds 6 true) s7 s8 s14 s15 s16 s17 ((((((W.setCell ⟨g7, 0, none⟩ (.bool ed)).setCell ⟨g7, 1, none⟩ la).setCell ⟨g7, 2, none⟩ (.int .i64 ty)).setCell ⟨g7, 3, none⟩ (.int .u64 fm)).setCell ⟨g7, 4, none⟩ (.int .u64 tw)).setCell ⟨g7, 5, none⟩ pr) la pr L P ty fm tw g7 g8 b1 b4 b5 true b7 := by
  have e : ∀ j, j ≠ 6 → (has (l.setIfInBounds 6 true) j ↔ has l j) := fun j h => has_other (Ne.symm h)
  have hb := un hun h.h6
  subst hb q1 q4
  refine ⟨fun q => h.v14 ((e 0 (by decide)).1 q), fun q => h.v16 ((e 2 (by decide)).1 q), fun q => h.v17 ((e 3 (by decide)).1 q), (e 1 (by decide)).trans h.h1, (e 4 (by decide)).trans h.h4, (e 5 (by decide)).trans h.h5, ⟨fun _ => rfl, fun _ => has_self hun⟩, (e 7 (by decide)).trans h.h7, fun _ => ⟨rfl, rfl⟩, h.o7, h.s1, h.s4, h.s5, ?_⟩
  exact (((((h.hp.put (i := 2) rfl 0 (.bool ed)).put (i := 2) rfl 1 la).put (i := 2) rfl 2 (.int .i64 ty)).put (i := 2) rfl 3 (.int .u64 fm)).put (i := 2) rfl 4 (.int .u64 tw)).put (i := 2) rfl 5 pr
theorem I1.t7 {d0 d1 d2 : Value} (h : I1 w base u v y ed #[d0, d1, d2] l s7 s8 s14 s15 s16 s17 W la pr L P ty fm tw g7 g8 b1 b4 b5 b6 b7) (hun : l.getD 7 true = false) (q5 : b5 = true) :
    I1 w base u v y ed #[d0, d1, d2] (l.setIfInBounds 7 true) s7 s8 s14 s15 s16 s17 (((W.setCell ⟨g8, 0, none⟩ d0).setCell ⟨g8, 1, none⟩ d1).setCell ⟨g8, 2, none⟩ d2) la pr L P ty fm tw g7 g8 b1 b4 b5 b6 true := by
  have e : ∀ j, j ≠ 7 → (has (l.setIfInBounds 7 true) j ↔ has l j) := fun j h => has_other (Ne.symm h)
  have hb := un hun h.h7
  subst hb q5
  refine ⟨fun q => h.v14 ((e 0 (by decide)).1 q), fun q => h.v16 ((e 2 (by decide)).1 q), fun q => h.v17 ((e 3 (by decide)).1 q), (e 1 (by decide)).trans h.h1, (e 4 (by decide)).trans h.h4, (e 5 (by decide)).trans h.h5, (e 6 (by decide)).trans h.h6, ⟨fun _ => rfl, fun _ => has_self hun⟩, h.o6, fun _ => rfl, h.s1, h.s4, h.s5, ?_⟩
  cases b1 with
  | false =>
    cases b4 with
    | false => exact ((h.hp.put (i := 0) rfl 0 d0).put (i := 0) rfl 1 d1).put (i := 0) rfl 2 d2
    | true => exact ((h.hp.put (i := 1) rfl 0 d0).put (i := 1) rfl 1 d1).put (i := 1) rfl 2 d2
  | true =>
    cases b4 with
    | false => exact ((h.hp.put (i := 2) rfl 0 d0).put (i := 2) rfl 1 d1).put (i := 2) rfl 2 d2
    | true => exact ((h.hp.put (i := 3) rfl 0 d0).put (i := 3) rfl 1 d1).put (i := 3) rfl 2 d2
theorem I1.rowL_ (h : I1 w base u v y ed D l s7 s8 s14 s15 s16 s17 W la pr L P ty fm tw g7 g8 b1 b4 b5 b6 b7) (q1 : b1 = true) : ∃ ad cp, la = .slice ad L.length cp := by
  subst q1
  exact rowShape (h.hp.row (i := 0) rfl)
theorem I1.rowP_ (h : I1 w base u v y ed D l s7 s8 s14 s15 s16 s17 W la pr L P ty fm tw g7 g8 b1 b4 b5 b6 b7) (q1 : b1 = true) : ∃ ad cp, pr = .slice ad P.length cp := by
  subst q1
  exact rowShape (h.hp.row (i := 1) rfl)
theorem I1.boxT_ (h : I1 w base u v y ed D l s7 s8 s14 s15 s16 s17 W la pr L P ty fm tw g7 g8 b1 b4 b5 b6 b7) (q4 : b4 = true) (q6 : b6 = false) : W.heap[g7]? = some (.cells thZ 26 (0, 0)) := by
  subst q4 q6
  cases b1 with
  | false => exact h.hp.box (i := 0) rfl
  | true => exact h.hp.box (i := 2) rfl
theorem I1.boxV_ (h : I1 w base u v y ed D l s7 s8 s14 s15 s16 s17 W la pr L P ty fm tw g7 g8 b1 b4 b5 b6 b7) (q5 : b5 = true) (q7 : b7 = false) : W.heap[g8]? = some (.cells #[.int .i64 0, .int .i64 0, .string ⟨#[]⟩] 37 (0, 0)) := by
  subst q5 q7
  cases b1 with
  | false =>
    cases b4 with
    | false => exact h.hp.box (i := 0) rfl
    | true => exact h.hp.box (i := 1) rfl
  | true =>
    cases b4 with
    | false => exact h.hp.box (i := 2) rfl
    | true => exact h.hp.box (i := 3) rfl
end
end Go.Proofs.YtdgpalileloekaaDoor.recw
