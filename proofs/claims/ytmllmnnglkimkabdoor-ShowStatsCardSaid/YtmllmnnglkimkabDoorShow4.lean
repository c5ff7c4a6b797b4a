/- How a store stands, as a text (package show: Stat). The table of powers of ten is a premise. No other condition. -/
import Derived.Test.YtmllmnnglkimkabDoorShow3
import Derived.Deep.Cut
import Derived.BigRegion
namespace Go.Proofs.YtmllmnnglkimkabDoor.show
open Go.RowKit
attribute [local go_sem ↓] Go.wp_at_zero Go.wp_at_succ
attribute [local go_sem] str_size
set_option linter.unusedVariables false
set_option maxRecDepth 100000

/-- how a store stands, as a text -/
def statB (c l f t e : ByteArray) : ByteArray :=
  (((((((((⟨#[99, 104, 97, 110, 103, 101, 115, 32]⟩ : ByteArray) ++ c) ++ ⟨#[32, 108, 111, 103, 32]⟩) ++ l) ++ ⟨#[32, 102, 114, 101, 101, 32]⟩) ++ f) ++ ⟨#[32, 116, 97, 107, 101, 110, 32]⟩) ++ t) ++ ⟨#[32, 101, 112, 111, 99, 104, 32]⟩) ++ e
def statT (c l f t e : ByteArray) (u : Bool) : ByteArray := if u then statB c l f t e ++ ⟨#[32, 116, 117, 114, 110, 115]⟩ else statB c l f t e
def statW (c l f t e : ByteArray) : List ByteArray := [⟨#[99, 104, 97, 110, 103, 101, 115]⟩, c, ⟨#[108, 111, 103]⟩, l, ⟨#[102, 114, 101, 101]⟩, f, ⟨#[116, 97, 107, 101, 110]⟩, t, ⟨#[101, 112, 111, 99, 104]⟩, e]
theorem ba_ext {a b : ByteArray} (h : a.data.toList = b.data.toList) : a = b := by
  cases a; cases b; simp only [ByteArray.mk.injEq]; exact Array.toList_inj.mp h
theorem ba_app (a b : ByteArray) : (a ++ b).data.toList = a.data.toList ++ b.data.toList := by simp [ByteArray.data_append]
theorem joined_no (c l f t e : ByteArray) : joined (statW c l f t e) = statB c l f t e := by
  apply ba_ext
  unfold statB joined statW
  simp only [ba_app, List.map_cons, List.map_nil, Lib.join]
  simp
theorem joined_yes (c l f t e : ByteArray) : joined (statW c l f t e ++ [⟨#[116, 117, 114, 110, 115]⟩]) = statB c l f t e ++ ⟨#[32, 116, 117, 114, 110, 115]⟩ := by
  apply ba_ext
  unfold statB joined statW
  simp only [ba_app, List.map_cons, List.map_nil, Lib.join, List.cons_append, List.nil_append]
  simp
theorem statB_size (c l f t e : ByteArray) (h1 : c.size ≤ 21) (h2 : l.size ≤ 21) (h3 : f.size ≤ 21) (h4 : t.size ≤ 21) (h5 : e.size ≤ 21) : (statB c l f t e).size ≤ 200 := by
  unfold statB
  simp only [ByteArray.size_append]
  have a1 : (⟨#[99, 104, 97, 110, 103, 101, 115, 32]⟩ : ByteArray).size = 8 := rfl
  have a2 : (⟨#[32, 108, 111, 103, 32]⟩ : ByteArray).size = 5 := rfl
  have a3 : (⟨#[32, 102, 114, 101, 101, 32]⟩ : ByteArray).size = 6 := rfl
  have a4 : (⟨#[32, 116, 97, 107, 101, 110, 32]⟩ : ByteArray).size = 7 := rfl
  have a5 : (⟨#[32, 101, 112, 111, 99, 104, 32]⟩ : ByteArray).size = 7 := rfl
  omega
theorem SRow.alloc {w : World} {base : Nat} {v : Value} {l : List ByteArray} (h : SRow w base v l) (o : Obj) : SRow (w.alloc o) base v l := World.ownsRow.alloc h o
theorem newCell2 (w : World) (o : Obj) (y : Value) (t : TypeId) : ((w.alloc o).alloc (.cells #[y] t)).cell? ⟨w.heap.size + 1, 0, none⟩ = some y := by
  have h := newCell (w.alloc o) #[y] t 0
  have e : (w.alloc o).heap.size = w.heap.size + 1 := by simp
  rw [e] at h
  exact h
set_option maxHeartbeats 2000000 in
theorem stat_any (c l f t : Int) (ep : Nat) (u : Bool) (z : Int) (hc : -9223372036854775808 ≤ c ∧ c ≤ 9223372036854775807) (hl : -9223372036854775808 ≤ l ∧ l ≤ 9223372036854775807) (hf : -9223372036854775808 ≤ f ∧ f ≤ 9223372036854775807) (ht : -9223372036854775808 ≤ t ∧ t ≤ 9223372036854775807)
    (he : ep < 4294967296) (w : World) (hT : Tab w) : Calls Tryd.prog 21 #[.agg #[.int .i64 c, .int .i64 l, .int .i64 f, .int .i64 t, .int .u32 (ep : Int), .bool u, .int .u64 z]] w fun e w' => e = .returned (.string (statT (numT c) (numT l) (numT f) (numT t) (numT (ep : Int)) u)) ∧ Below w.heap.size w w' := by
  have c1 := fun w' h => num_any c hc w' h
  have c2 := fun w' h => num_any l hl w' h
  have c3 := fun w' h => num_any f hf w' h
  have c4 := fun w' h => num_any t ht w' h
  have c5 : ∀ w' (x : Int), x = ep → Tab w' → Calls Tryd.prog 56 #[.int .u64 x] w' fun e w2 => e = .returned (.string (numT (ep : Int))) ∧ Below w'.heap.size w' w2 := fun w' x hx h => by subst hx; exact id_any ep (by omega) w' h
  have hwr : IntKind.u64.wrap (ep : Int) = (ep : Int) := by rw [IntKind.wrap_u64]; omega
  have l1 := numT_len c hc
  have l2 := numT_len l hl
  have l3 := numT_len f hf
  have l4 := numT_len t ht
  have l5 := numT_len (ep : Int) (by omega)
  obtain ⟨C, hC⟩ : ∃ x, x = numT c := ⟨_, rfl⟩
  obtain ⟨L, hL⟩ : ∃ x, x = numT l := ⟨_, rfl⟩
  obtain ⟨F, hF⟩ : ∃ x, x = numT f := ⟨_, rfl⟩
  obtain ⟨T, hTt⟩ : ∃ x, x = numT t := ⟨_, rfl⟩
  obtain ⟨E, hE⟩ : ∃ x, x = numT (ep : Int) := ⟨_, rfl⟩
  simp only [← hC] at c1 l1 ⊢
  simp only [← hL] at c2 l2 ⊢
  simp only [← hF] at c3 l3 ⊢
  simp only [← hTt] at c4 l4 ⊢
  simp only [← hE] at c5 l5 ⊢
  have hsz := statB_size C L F T E l1 l2 l3 l4 l5
  have cj0 : ∀ w' v, SRow w' w.heap.size v (statW C L F T E) → Calls Tryd.prog 57 #[v, .string ⟨#[32]⟩] w' fun e w2 => e = .returned (.string (statB C L F T E)) ∧ Below w'.heap.size w' w2 := fun w' v h => by
    have := join_row (statW C L F T E) (by simp [statW]) (by rw [joined_no]; omega) (by simp [statW]) w' _ v h
    rw [joined_no] at this; exact this
  have cj1 : ∀ w' v, SRow w' w.heap.size v (statW C L F T E ++ [⟨#[116, 117, 114, 110, 115]⟩]) → Calls Tryd.prog 57 #[v, .string ⟨#[32]⟩] w' fun e w2 => e = .returned (.string (statB C L F T E ++ ⟨#[32, 116, 117, 114, 110, 115]⟩)) ∧ Below w'.heap.size w' w2 := fun w' v h => by
    have := join_row (statW C L F T E ++ [⟨#[116, 117, 114, 110, 115]⟩]) (by simp [statW]) (by rw [joined_yes, ByteArray.size_append]; have e6 : (⟨#[32, 116, 117, 114, 110, 115]⟩ : ByteArray).size = 6 := rfl; omega) (by simp [statW]) w' _ v h
    rw [joined_yes] at this; exact this
  clear hC hL hF hTt hE l1 l2 l3 l4 l5 hc hl hf ht he
  replace c1 := Lib.hid c1; replace c2 := Lib.hid c2; replace c3 := Lib.hid c3; replace c4 := Lib.hid c4; replace c5 := Lib.hid c5; replace hT := Lib.hid hT; replace hsz := Lib.hid hsz; replace cj0 := Lib.hid cj0; replace cj1 := Lib.hid cj1
  go_enter Tryd.func21, Tryd.ntmps21
  go_upto_region 1 with fail
  have hlt : w.heap.size < (w.alloc (.cells #[.int .i64 c, .int .i64 l, .int .i64 f, .int .i64 t, .int .u32 (ep : Int), .bool u, .int .u64 z] 44)).heap.size := by simp
  have d0 : (w.alloc (.cells #[.int .i64 c, .int .i64 l, .int .i64 f, .int .i64 t, .int .u32 (ep : Int), .bool u, .int .u64 z] 44)).cell? ⟨w.heap.size, 0, none⟩ = some (.int .i64 c) := newCell w #[.int .i64 c, .int .i64 l, .int .i64 f, .int .i64 t, .int .u32 (ep : Int), .bool u, .int .u64 z] 44 0
  have d1 : (w.alloc (.cells #[.int .i64 c, .int .i64 l, .int .i64 f, .int .i64 t, .int .u32 (ep : Int), .bool u, .int .u64 z] 44)).cell? ⟨w.heap.size, 1, none⟩ = some (.int .i64 l) := newCell w #[.int .i64 c, .int .i64 l, .int .i64 f, .int .i64 t, .int .u32 (ep : Int), .bool u, .int .u64 z] 44 1
  have d2 : (w.alloc (.cells #[.int .i64 c, .int .i64 l, .int .i64 f, .int .i64 t, .int .u32 (ep : Int), .bool u, .int .u64 z] 44)).cell? ⟨w.heap.size, 2, none⟩ = some (.int .i64 f) := newCell w #[.int .i64 c, .int .i64 l, .int .i64 f, .int .i64 t, .int .u32 (ep : Int), .bool u, .int .u64 z] 44 2
  have d3 : (w.alloc (.cells #[.int .i64 c, .int .i64 l, .int .i64 f, .int .i64 t, .int .u32 (ep : Int), .bool u, .int .u64 z] 44)).cell? ⟨w.heap.size, 3, none⟩ = some (.int .i64 t) := newCell w #[.int .i64 c, .int .i64 l, .int .i64 f, .int .i64 t, .int .u32 (ep : Int), .bool u, .int .u64 z] 44 3
  have d4 : (w.alloc (.cells #[.int .i64 c, .int .i64 l, .int .i64 f, .int .i64 t, .int .u32 (ep : Int), .bool u, .int .u64 z] 44)).cell? ⟨w.heap.size, 4, none⟩ = some (.int .u32 (ep : Int)) := newCell w #[.int .i64 c, .int .i64 l, .int .i64 f, .int .i64 t, .int .u32 (ep : Int), .bool u, .int .u64 z] 44 4
  have d5 : (w.alloc (.cells #[.int .i64 c, .int .i64 l, .int .i64 f, .int .i64 t, .int .u32 (ep : Int), .bool u, .int .u64 z] 44)).cell? ⟨w.heap.size, 5, none⟩ = some (.bool u) := newCell w #[.int .i64 c, .int .i64 l, .int .i64 f, .int .i64 t, .int .u32 (ep : Int), .bool u, .int .u64 z] 44 5
  replace hlt := Lib.hid hlt
  go_region_held3 (fun w' => Tab w' ∧ Below w.heap.size w w' ∧ w.heap.size < w'.heap.size ∧ w'.cell? ⟨w.heap.size, 0, none⟩ = some (.int .i64 c) ∧ w'.cell? ⟨w.heap.size, 1, none⟩ = some (.int .i64 l) ∧ w'.cell? ⟨w.heap.size, 2, none⟩ = some (.int .i64 f) ∧ w'.cell? ⟨w.heap.size, 3, none⟩ = some (.int .i64 t) ∧ w'.cell? ⟨w.heap.size, 4, none⟩ = some (.int .u32 (ep : Int)) ∧ w'.cell? ⟨w.heap.size, 5, none⟩ = some (.bool u))
    (first
    | exact ⟨hT.out.keep ((Below.refl _ _).alloc (Nat.le_refl _) _).drew, ((Below.refl _ _).alloc (Nat.le_refl _) _).drew, hlt.out, d0, d1, d2, d3, d4, d5⟩
    | (go_split_ands; exact ⟨by assumption, by assumption, by assumption, by assumption, by assumption, by assumption, by assumption, by assumption, by assumption⟩)
    | (go_split_ands; exact ⟨Tab.keep (by assumption) (by assumption), belowCont (by assumption) (by assumption), Nat.lt_of_lt_of_le (by assumption) (Below.size (by assumption)), (Below.cell (by assumption) (by assumption)).trans (by assumption), (Below.cell (by assumption) (by assumption)).trans (by assumption), (Below.cell (by assumption) (by assumption)).trans (by assumption), (Below.cell (by assumption) (by assumption)).trans (by assumption), (Below.cell (by assumption) (by assumption)).trans (by assumption), (Below.cell (by assumption) (by assumption)).trans (by assumption)⟩)
    | (go_split_ands; exact ⟨Tab.keep (by assumption) ((Below.refl _ _).alloc (Nat.le_refl _) _), Below.alloc (by assumption) (Nat.le_of_lt (by assumption)) _, by simp; omega, (Below.cell ((Below.refl _ _).alloc (Nat.le_refl _) _) (by assumption)).trans (by assumption), (Below.cell ((Below.refl _ _).alloc (Nat.le_refl _) _) (by assumption)).trans (by assumption), (Below.cell ((Below.refl _ _).alloc (Nat.le_refl _) _) (by assumption)).trans (by assumption), (Below.cell ((Below.refl _ _).alloc (Nat.le_refl _) _) (by assumption)).trans (by assumption), (Below.cell ((Below.refl _ _).alloc (Nat.le_refl _) _) (by assumption)).trans (by assumption), (Below.cell ((Below.refl _ _).alloc (Nat.le_refl _) _) (by assumption)).trans (by assumption)⟩))
    (first
      | (go_at_call 22; (with_reducible refine (c1.out _ (by go_split_ands; assumption)).mono ?_); rintro e w1 ⟨rfl, hb⟩)
      | (go_at_call 22; (with_reducible refine (c2.out _ (by go_split_ands; assumption)).mono ?_); rintro e w1 ⟨rfl, hb⟩)
      | (go_at_call 22; (with_reducible refine (c3.out _ (by go_split_ands; assumption)).mono ?_); rintro e w1 ⟨rfl, hb⟩)
      | (go_at_call 22; (with_reducible refine (c4.out _ (by go_split_ands; assumption)).mono ?_); rintro e w1 ⟨rfl, hb⟩)
      | (go_at_call 56; (with_reducible refine (c5.out _ _ hwr (by go_split_ands; assumption)).mono ?_); rintro e w1 ⟨rfl, hb⟩)
      | (go_at_call 56; (with_reducible refine (c5.out _ _ rfl (by go_split_ands; assumption)).mono ?_); rintro e w1 ⟨rfl, hb⟩))
  obtain ⟨t1, b1, z1, _, _, _, _, _, e5⟩ := ‹Tab _ ∧ _›
  have hrow : SRow (w1.alloc (.cells #[.string ⟨#[99, 104, 97, 110, 103, 101, 115]⟩, .string C, .string ⟨#[108, 111, 103]⟩, .string L, .string ⟨#[102, 114, 101, 101]⟩, .string F, .string ⟨#[116, 97, 107, 101, 110]⟩, .string T, .string ⟨#[101, 112, 111, 99, 104]⟩, .string E] 9)) w.heap.size (.slice (some ⟨w1.heap.size, 0, none⟩) 10 10) (statW C L F T E) :=
    World.ownsRow_lit w1 #[.string ⟨#[99, 104, 97, 110, 103, 101, 115]⟩, .string C, .string ⟨#[108, 111, 103]⟩, .string L, .string ⟨#[102, 114, 101, 101]⟩, .string F, .string ⟨#[116, 97, 107, 101, 110]⟩, .string T, .string ⟨#[101, 112, 111, 99, 104]⟩, .string E] 10 (by simp at z1; omega) (by decide) rfl
  have hz2 : w.heap.size ≤ w1.heap.size := by simp at z1; omega
  clear z1 t1
  replace hrow := Lib.hid hrow; replace b1 := Lib.hid b1; replace hz2 := Lib.hid hz2
  cases u
  · go_wp2_with (go_at_call 57; (with_reducible refine (cj0.out _ _ hrow.out).mono ?_); rintro e w2 ⟨rfl, b2⟩; replace b2 := Lib.hid b2)
    go_ret
    exact ⟨rfl, belowCont b1.out b2.out⟩
  · go_wp2_with (first
      | (at_builtin; (refine wpList_append_str rfl _ _ rfl w.heap.size _ (statW C L F T E) rfl (SRow.alloc hrow.out _) _ _ _ rfl (newCell2 _ _ _ _) ?hn ?hb ?_; (case hn => simp [statW]); (case hb => have := hz2.out; simp; omega); intro v2 w2 hrow2 hgrow2; replace hrow2 := Lib.hid hrow2; replace hgrow2 := Lib.hid hgrow2))
      | (go_at_call 57; (with_reducible refine (cj1.out _ _ hrow2.out).mono ?_); rintro e w3 ⟨rfl, b2⟩; replace b2 := Lib.hid b2))
    go_ret
    refine ⟨rfl, belowCont (((b1.out).alloc (by have := hz2.out; simp; omega) _).grown hgrow2.out (by have := hz2.out; simp; omega) (fun g hg => (World.ownsRow.lt hrow.out g hg).1)) b2.out⟩
end Go.Proofs.YtmllmnnglkimkabDoor.show
