/- The space: which places are taken, and that the least free one is taken. No condition. -/
import Derived.Test.YtcdcipfojfnblaaGreatDoorBase
namespace Go.Proofs.YtcdcipfojfnblaaGreatDoor.space
open Go.RowKit
attribute [local go_sem ↓] Go.wp_at_zero Go.wp_at_succ
set_option linter.unusedVariables false
set_option maxRecDepth 100000

/-- 'the int x is in', as a datum's question -/
def at_ (x : Int) : Lit := .int .i64 x
structure SpaceAt (w : World) (g m : Nat) (fi pl le : Int) (f : Int → Bool) (c : Nat) : Prop where
  blk : w.heap[g]? = some (.cells #[.int .i64 fi, .int .i64 pl, .int .i64 le, .map (some m)] 97 (0, 0))
  ne : g ≠ m
  own : ∃ D : DataW Unit, w.ownsMap Tryz.prog 3 unitElem m c D ∧ (∀ x, Maps.has D (at_ x) = f x) ∧ Maps.size D = c

section
variable {w w' : World} {g m c : Nat} {fi pl le : Int} {f : Int → Bool}
theorem SpaceAt.keep (h : SpaceAt w g m fi pl le f c) {X : List Nat} (k : Keeps X w w') (hg : g ∉ X) (hm : m ∉ X) : SpaceAt w' g m fi pl le f c := by
  obtain ⟨D, h1, h2, h3⟩ := h.own
  exact ⟨(k.block _ (block_lt h.blk) hg).trans h.blk, h.ne, D, ownsMap_of_block h1 (k.block _ (ownsMap_lt h1) hm), h2, h3⟩
theorem SpaceAt.below (h : SpaceAt w g m fi pl le f c) (k : Below w.heap.size w w') : SpaceAt w' g m fi pl le f c := h.keep (Keeps.ofBelow k []) (by simp) (by simp)
theorem SpaceAt.cells (h : SpaceAt w g m fi pl le f c) : w.cell? ⟨g, 0, none⟩ = some (.int .i64 fi) ∧ w.cell? ⟨g, 1, none⟩ = some (.int .i64 pl) ∧ w.cell? ⟨g, 2, none⟩ = some (.int .i64 le) ∧ w.cell? ⟨g, 3, none⟩ = some (.map (some m)) :=
  ⟨cell_of_row _ _ 0 _ _ _ h.blk, cell_of_row _ _ 1 _ _ _ h.blk, cell_of_row _ _ 2 _ _ _ h.blk, cell_of_row _ _ 3 _ _ _ h.blk⟩
theorem SpaceAt.lt (h : SpaceAt w g m fi pl le f c) : g < w.heap.size ∧ m < w.heap.size := by
  obtain ⟨D, h1, _, _⟩ := h.own
  exact ⟨block_lt h.blk, ownsMap_lt h1⟩
theorem SpaceAt.free (h : SpaceAt w g m fi pl le f c) (i : Nat) : w.frozen? ⟨g, i, none⟩ = false := by simp [World.frozen?, h.blk]
end

theorem zeroMark (w : World) : (zeroValue 134).run Tryz.prog w = .ok (.agg #[]) w := by kernel_rfl
theorem keyed : Maps.Keyed Tryz.prog 3 := Maps.int_keyed Tryz.underlying3

theorem made {w : World} {fi pl a b : Int} (ha : a = fi) (hb : b = pl) :
    SpaceAt ((w.alloc (.map #[] 0)).alloc (.cells #[.int .i64 a, .int .i64 b, .int .i64 a, .map (some w.heap.size)] 97)) (w.heap.size + 1) w.heap.size fi pl fi (fun _ => false) 0 := by
  subst ha hb
  have h0 : ((w.alloc (.map #[] 0)).alloc (.cells #[.int .i64 a, .int .i64 b, .int .i64 a, .map (some w.heap.size)] 97)).heap[w.heap.size + 1]? = some (.cells #[.int .i64 a, .int .i64 b, .int .i64 a, .map (some w.heap.size)] 97) := by
    have := heap_alloc_new (w.alloc (.map #[] 0)) (.cells #[.int .i64 a, .int .i64 b, .int .i64 a, .map (some w.heap.size)] 97)
    simpa using this
  exact ⟨h0, by omega, .map [], ownsMap_of_block (World.ownsMap_made w _ _ _) (Below.heap_alloc _ _ _ (by simp)), fun _ => rfl, rfl⟩

theorem new_any (n k : Int) (w : World) (hn : -9223372036854775808 ≤ n ∧ n ≤ 9223372036854775807) :
    Calls Tryz.prog 34 #[.int .i64 n, .int .i64 k] w fun e w' => e = .returned (.pointer (some ⟨w.heap.size + 1, 0, none⟩)) ∧
      SpaceAt w' (w.heap.size + 1) w.heap.size (min (max k 0) (max n 0)) (max n 0) (min (max k 0) (max n 0)) (fun _ => false) 0 ∧ Below w.heap.size w w' := by
  have hmm := @run_makeMap Tryz.prog
  go_enter Tryz.func34, Tryz.ntmps34
  go_wp2
  all_goals
    go_ret
    exact ⟨rfl, made (by omega) (by omega), by go_grown⟩

theorem taken_any (x : Int) (hx : -9223372036854775808 ≤ x ∧ x ≤ 9223372036854775807) (w : World) {g m c : Nat} {fi pl le : Int} {f : Int → Bool} (h : SpaceAt w g m fi pl le f c) :
    Calls Tryz.prog 37 #[.pointer (some ⟨g, 0, none⟩), .int .i64 x] w fun e w' => e = .returned (.bool (f x)) ∧ Below w.heap.size w w' := by
  obtain ⟨c0, c1, c2, c3⟩ := h.cells
  obtain ⟨D, hown, hat, hsz⟩ := h.own
  have hlook : ∀ w' : World, w' = w → (Instr.lookup 95 (.map (some m)) (.int .i64 x) true).run Tryz.prog w' = .ok (.tuple #[.agg #[], .bool (f x)]) w' := by
    rintro w' rfl
    obtain ⟨v, ps, hr, hv⟩ := hown.look_ok keyed Tryz.underlying95 (zeroMark w') unitElem_mk (Maps.keyOf_int_mk Tryz.underlying3 (wf_i64 hx))
    obtain ⟨rfl, _⟩ := unitElem_inv hv
    rw [hr]; congr; exact hat x
  have hl := hlook w rfl
  clear hlook hown hat hsz h
  go_enter Tryz.func37, Tryz.ntmps37
  go_wp2
  go_ret
  exact ⟨rfl, by go_grown⟩

theorem taken_nil (x : Int) (w : World) : Calls Tryz.prog 37 #[.pointer none, .int .i64 x] w fun e w' => e = .returned (.bool false) ∧ Below w.heap.size w w' := by
  go_enter Tryz.func37, Tryz.ntmps37
  go_wp2
  go_ret
  exact ⟨rfl, by go_grown⟩
theorem free_nil (w : World) : Calls Tryz.prog 61 #[.pointer none] w fun e w' => e = .returned (.int .i64 0) ∧ Below w.heap.size w w' := by
  go_enter Tryz.func61, Tryz.ntmps61
  go_wp2
  go_ret
  exact ⟨rfl, by go_grown⟩
theorem many_nil (w : World) : Calls Tryz.prog 18 #[.pointer none] w fun e w' => e = .returned (.int .i64 0) ∧ Below w.heap.size w w' := by
  go_enter Tryz.func18, Tryz.ntmps18
  go_wp2
  go_ret
  exact ⟨rfl, by go_grown⟩
theorem use_nil (x : Int) (w : World) : Calls Tryz.prog 62 #[.pointer none, .int .i64 x] w fun e w' => e = .returned (.bool false) ∧ Below w.heap.size w w' := by
  go_enter Tryz.func62, Tryz.ntmps62
  go_wp2
  go_ret
  exact ⟨rfl, by go_grown⟩
theorem drop_nil (x : Int) (w : World) : Calls Tryz.prog 36 #[.pointer none, .int .i64 x] w fun e w' => e = .returned (.bool false) ∧ Below w.heap.size w w' := by
  go_enter Tryz.func36, Tryz.ntmps36
  go_wp2_with (go_at_call 37; (with_reducible refine (taken_nil _ _).mono ?_); rintro e w1 ⟨rfl, hb⟩)
  go_ret
  exact ⟨rfl, hb⟩
theorem take_nil (w : World) : Calls Tryz.prog 39 #[.pointer none] w fun e w' => e = .returned (.int .i64 (-1)) ∧ Below w.heap.size w w' := by
  go_enter Tryz.func39, Tryz.ntmps39
  go_wp2_with (go_at_call 61; (with_reducible refine (free_nil _).mono ?_); rintro e w1 ⟨rfl, hb⟩)
  go_ret
  exact ⟨rfl, hb⟩

theorem SpaceAt.len {w : World} {g m c : Nat} {fi pl le : Int} {f : Int → Bool} (h : SpaceAt w g m fi pl le f c) (ty : TypeId) : (Builtin.len_ #[95] ty #[.map (some m)]).run Tryz.prog w = .ok (.int .i64 c) w := by
  obtain ⟨D, hown, hat, hsz⟩ := h.own
  have := hown.len Tryz.underlying95 ty
  rw [hsz] at this; exact this

theorem many_any (w : World) {g m c : Nat} {fi pl le : Int} {f : Int → Bool} (h : SpaceAt w g m fi pl le f c) :
    Calls Tryz.prog 18 #[.pointer (some ⟨g, 0, none⟩)] w fun e w' => e = .returned (.int .i64 c) ∧ Below w.heap.size w w' := by
  obtain ⟨c0, c1, c2, c3⟩ := h.cells
  have hl := h.len 3
  clear h
  go_enter Tryz.func18, Tryz.ntmps18
  go_wp2
  go_ret
  exact ⟨rfl, by go_grown⟩

theorem free_any (w : World) {g m c : Nat} {fi pl le : Int} {f : Int → Bool} (h : SpaceAt w g m fi pl le f c) (h1 : 0 ≤ fi) (h2 : fi ≤ pl) (h3 : pl ≤ 9223372036854775807) (h4 : (c : Int) ≤ pl - fi) :
    Calls Tryz.prog 61 #[.pointer (some ⟨g, 0, none⟩)] w fun e w' => e = .returned (.int .i64 (pl - fi - c)) ∧ Below w.heap.size w w' := by
  obtain ⟨c0, c1, c2, c3⟩ := h.cells
  go_enter Tryz.func61, Tryz.ntmps61
  go_wp2
  go_region_held3 (fun w' => Below w.heap.size w w' ∧ w'.cell? ⟨g, 0, none⟩ = some (.int .i64 fi) ∧ w'.cell? ⟨g, 1, none⟩ = some (.int .i64 pl) ∧ w'.cell? ⟨g, 3, none⟩ = some (.map (some m)) ∧ ∀ ty, (Builtin.len_ #[95] ty #[.map (some m)]).run Tryz.prog w' = .ok (.int .i64 c) w')
    (first | exact ⟨(Below.refl _ _).drew, c0, c1, c3, fun ty => SpaceAt.len (h.below ((Below.refl _ _).drew)) ty⟩ | assumption) (fail)
  go_wp2
  go_ret
  go_split_ands
  have e1 : IntKind.i64.wrap (pl - fi) = pl - fi := IntWalk.i64_in _ (by omega)
  have e2 : IntKind.i64.wrap (pl - fi - (c : Int)) = pl - fi - c := IntWalk.i64_in _ (by omega)
  refine ⟨?_, by assumption⟩
  show Ending.returned (.int .i64 (IntKind.i64.wrap (IntKind.i64.wrap (pl - fi) - (c : Int)))) = _
  rw [e1, e2]

theorem at_ne {x y : Int} (h : y ≠ x) : at_ y ≠ at_ x := by unfold at_; intro e; injection e with _ e; exact h e
theorem put_at {w w1 : World} {g m c : Nat} {fi pl le : Int} {f : Int → Bool} {D : DataW Unit} {x : Int} (h : SpaceAt w g m fi pl le f c) (hT : Maps.Tidy D) (hs : Maps.size D = c) (hat : ∀ y, Maps.has D (at_ y) = f y) (hx : f x = false)
    (hk : WideAt.IsKeyLit (at_ x)) (h1 : w1.ownsMap Tryz.prog 3 unitElem m (c + 1) (D.put (at_ x) (.agg []))) (ht : w.mapTurned w1 m) :
    SpaceAt w1 g m fi pl le (fun y => f y || y == x) (c + 1) ∧ Keeps [g, m] w w1 := by
  have hk2 : Keeps [m] w w1 := (Keeps.refl [m] w).turned (Or.inl (by simp)) ht
  refine ⟨⟨(hk2.block _ (block_lt h.blk) (by simpa using h.ne)).trans h.blk, h.ne, _, h1, ?_, ?_⟩, hk2.more (fun y hy => Or.inl (by simp at hy; simp [hy]))⟩
  · intro y
    by_cases e : y = x
    · subst e; rw [Maps.has_put_same hT.isMap hk]; simp
    · rw [Maps.has_put_other (at_ne e), hat]; simp [e]
  · rw [Maps.size_put hT, hat, hx, hs]; simp
theorem del_at {w w1 : World} {g m c : Nat} {fi pl le : Int} {f : Int → Bool} {D : DataW Unit} {x : Int} (h : SpaceAt w g m fi pl le f c) (hT : Maps.Tidy D) (hs : Maps.size D = c) (hat : ∀ y, Maps.has D (at_ y) = f y) (hx : f x = true)
    (h1 : w1.ownsMap Tryz.prog 3 unitElem m c (D.del (at_ x))) (ht : w.mapTurned w1 m) :
    SpaceAt w1 g m fi pl le (fun y => f y && !(y == x)) (c - 1) ∧ Keeps [g, m] w w1 := by
  have hk2 : Keeps [m] w w1 := (Keeps.refl [m] w).turned (Or.inl (by simp)) ht
  have hsz : Maps.size (D.del (at_ x)) = c - 1 := by
    have := Maps.size_del (k := at_ x) hT
    rw [hat, hx, hs] at this; simp at this; omega
  refine ⟨⟨(hk2.block _ (block_lt h.blk) (by simpa using h.ne)).trans h.blk, h.ne, _, hsz ▸ ownsMap_tight h1, ?_, hsz⟩, hk2.more (fun y hy => Or.inl (by simp at hy; simp [hy]))⟩
  intro y
  by_cases e : y = x
  · subst e; rw [Maps.has_del_same]; simp
  · rw [Maps.has_del_other (at_ne e), hat]; simp [e]
theorem SpaceAt.setLeast {w : World} {g m c : Nat} {fi pl le : Int} {f : Int → Bool} (h : SpaceAt w g m fi pl le f c) {v le' : Int} (e : v = le') : SpaceAt (w.setCell ⟨g, 2, none⟩ (.int .i64 v)) g m fi pl le' f c := by
  subst e
  obtain ⟨D, h1, h2, h3⟩ := h.own
  refine ⟨?_, h.ne, D, h1.setCell (Ne.symm h.ne) _, h2, h3⟩
  simp [World.setCell, Array.getElem?_modify, h.blk]

theorem use_no (x : Int) (hx : -9223372036854775808 ≤ x ∧ x ≤ 9223372036854775807) (w : World) {g m c : Nat} {fi pl le : Int} {f : Int → Bool} (h : SpaceAt w g m fi pl le f c) (hn : x < fi ∨ pl ≤ x ∨ f x = true) :
    Calls Tryz.prog 62 #[.pointer (some ⟨g, 0, none⟩), .int .i64 x] w fun e w' => e = .returned (.bool false) ∧ Below w.heap.size w w' := by
  obtain ⟨c0, c1, c2, c3⟩ := h.cells
  by_cases a : x < fi
  · clear hn h
    go_enter Tryz.func62, Tryz.ntmps62
    go_wp2
    go_ret
    exact ⟨rfl, by go_grown⟩
  by_cases b : pl ≤ x
  · clear hn h
    go_enter Tryz.func62, Tryz.ntmps62
    go_wp2
    go_ret
    exact ⟨rfl, by go_grown⟩
  have hf : f x = true := by rcases hn with hn | hn | hn; omega; omega; exact hn
  have ht := taken_any x hx w h
  rw [hf] at ht
  have hf := Lib.hid hf
  clear hn h
  go_enter Tryz.func62, Tryz.ntmps62
  go_wp2_with (go_at_call 37; (with_reducible refine ht.mono ?_); rintro e w1 ⟨rfl, hb⟩)
  go_ret
  exact ⟨rfl, hb⟩

theorem use_yes (x : Int) (hx : -9223372036854775808 ≤ x ∧ x ≤ 9223372036854775807) (w : World) {g m c : Nat} {fi pl le : Int} {f : Int → Bool} (h : SpaceAt w g m fi pl le f c) (h1 : fi ≤ x) (h2 : x < pl) (hf : f x = false) (hc : c < 4294967296) :
    Calls Tryz.prog 62 #[.pointer (some ⟨g, 0, none⟩), .int .i64 x] w fun e w' => e = .returned (.bool true) ∧ SpaceAt w' g m fi pl le (fun y => f y || y == x) (c + 1) ∧ Keeps [g, m] w w' := by
  obtain ⟨c0, c1, c2, c3⟩ := h.cells
  have hkey := Maps.keyOf_int_mk Tryz.underlying3 (wf_i64 hx)
  have ht := taken_any x hx w h
  rw [hf] at ht
  have hf := Lib.hid hf
  have hlt := h.lt.1
  have h := Lib.hid h
  go_enter Tryz.func62, Tryz.ntmps62
  go_wp2_with (first | (go_at_call 37; (with_reducible refine ht.mono ?_); rintro e w1 ⟨rfl, hb⟩; have d3 := (hb.cell (p := ⟨g, 3, none⟩) hlt).trans c3; have hw1 := Lib.hid (h.out.below hb); have hk1 := Lib.hid (Keeps.ofBelow hb [g, m]); obtain ⟨D, hown, hat, hsz⟩ := hw1.out.own) | (at_mapUpdate; refine wpList_mapUpdate_in _ rfl _ _ _ 95 rfl 3 134 keyed Tryz.underlying95 unitElem m c D rfl hown ?hroom _ _ (at_ x) rfl rfl hkey _ [] unitElem_mk ?_; (case hroom => unfold maxLen; omega); intro w2 hown2 hturn2; obtain ⟨hs2, hk2⟩ := put_at hw1.out (hown.tidy keyed) hsz hat hf.out trivial hown2 hturn2))
  go_ret
  exact ⟨rfl, hs2, hk1.out.trans hk2⟩

theorem drop_no (x : Int) (hx : -9223372036854775808 ≤ x ∧ x ≤ 9223372036854775807) (w : World) {g m c : Nat} {fi pl le : Int} {f : Int → Bool} (h : SpaceAt w g m fi pl le f c) (hf : f x = false) :
    Calls Tryz.prog 36 #[.pointer (some ⟨g, 0, none⟩), .int .i64 x] w fun e w' => e = .returned (.bool false) ∧ Below w.heap.size w w' := by
  have ht := taken_any x hx w h
  rw [hf] at ht
  clear hf h
  go_enter Tryz.func36, Tryz.ntmps36
  go_wp2_with (go_at_call 37; (with_reducible refine ht.mono ?_); rintro e w1 ⟨rfl, hb⟩)
  go_ret
  exact ⟨rfl, hb⟩

theorem drop_yes (x : Int) (hx : -9223372036854775808 ≤ x ∧ x ≤ 9223372036854775807) (w : World) {g m c : Nat} {fi pl le : Int} {f : Int → Bool} (h : SpaceAt w g m fi pl le f c) (hf : f x = true) :
    Calls Tryz.prog 36 #[.pointer (some ⟨g, 0, none⟩), .int .i64 x] w fun e w' => e = .returned (.bool true) ∧ SpaceAt w' g m fi pl (min le x) (fun y => f y && !(y == x)) (c - 1) ∧ Keeps [g, m] w w' := by
  obtain ⟨c0, c1, c2, c3⟩ := h.cells
  have hkey := Maps.keyOf_int_mk Tryz.underlying3 (wf_i64 hx)
  have ht := taken_any x hx w h
  rw [hf] at ht
  have hf := Lib.hid hf
  have hlt := h.lt.1
  have h := Lib.hid h
  go_enter Tryz.func36, Tryz.ntmps36
  go_wp2_with (first | (go_at_call 37; (with_reducible refine ht.mono ?_); rintro e w1 ⟨rfl, hb⟩; have d3 := (hb.cell (p := ⟨g, 3, none⟩) hlt).trans c3; have hw1 := Lib.hid (h.out.below hb); have hk1 := Lib.hid (Keeps.ofBelow hb [g, m]); obtain ⟨D, hown, hat, hsz⟩ := hw1.out.own) | (at_delete; refine wpList_delete_own _ rfl _ _ 95 3 rfl 134 keyed Tryz.underlying95 unitElem m c D rfl hown _ (at_ x) rfl hkey ?_; intro w2 hown2 hturn2; obtain ⟨hs2, hk2⟩ := del_at hw1.out (hown.tidy keyed) hsz hat hf.out hown2 hturn2; obtain ⟨g0, g1, g2, g3⟩ := hs2.cells; have g4 := hs2.free 2; have hs2 := Lib.hid hs2; have hk2 := Lib.hid hk2))
  all_goals
    go_ret
    exact ⟨rfl, hs2.out.setLeast (by omega), hk1.out.trans (hk2.out.setCell (Or.inl (by simp)) _)⟩

theorem take_full (w : World) {g m c : Nat} {fi pl le : Int} {f : Int → Bool} (h : SpaceAt w g m fi pl le f c) (h1 : 0 ≤ fi) (h2 : fi ≤ pl) (h3 : pl ≤ 4294967296) (h4 : (c : Int) = pl - fi) :
    Calls Tryz.prog 39 #[.pointer (some ⟨g, 0, none⟩)] w fun e w' => e = .returned (.int .i64 (-1)) ∧ Below w.heap.size w w' := by
  have ht := free_any w h h1 h2 (by omega) (by omega)
  have e : pl - fi - (c : Int) = 0 := by omega
  rw [e] at ht
  clear e h h4
  go_enter Tryz.func39, Tryz.ntmps39
  go_wp2_with (go_at_call 61; (with_reducible refine ht.mono ?_); rintro e w1 ⟨rfl, hb⟩)
  go_ret
  exact ⟨rfl, hb⟩

theorem take_least (w : World) {g m c : Nat} {fi pl le x : Int} {f : Int → Bool} (h : SpaceAt w g m fi pl le f c) (h1 : 0 ≤ fi) (h2 : fi ≤ pl) (h3 : pl ≤ 4294967296) (h4 : (c : Int) < pl - fi)
    (hle : fi ≤ le) (hlex : le ≤ x) (hxp : x < pl) (hfx : f x = false) (hall : ∀ y, fi ≤ y → y < x → f y = true) :
    Calls Tryz.prog 39 #[.pointer (some ⟨g, 0, none⟩)] w fun e w' => e = .returned (.int .i64 x) ∧ SpaceAt w' g m fi pl x (fun y => f y || y == x) (c + 1) ∧ Keeps [g, m] w w' := by
  have ht := free_any w h h1 h2 (by omega) (by omega)
  have e : (pl - fi - (c : Int) == 0) = false := by simp; omega
  have h := Lib.hid h
  have hall := Lib.hid hall
  have hfx := Lib.hid hfx
  go_enter Tryz.func39, Tryz.ntmps39
  go_wp2_with (go_at_call 61; (with_reducible refine ht.mono ?_); rintro e w1 ⟨rfl, hb⟩)

  go_loopg [] (x - le).toNat (fun k wr => ∃ l : Int, le ≤ l ∧ l ≤ x ∧ k = (x - l).toNat ∧ SpaceAt wr g m fi pl l f c ∧ Keeps [g, m] w wr)
  case atStart => exact ⟨le, by omega, by omega, rfl, h.out.below hb, Keeps.ofBelow hb _⟩
  case round =>
    obtain ⟨l, hl1, hl2, hk, hs, hkp⟩ := hrel
    obtain ⟨c0, c1, c2, c3⟩ := hs.cells
    have htk := taken_any l (by omega) wr hs
    have hlt := hs.lt.1
    by_cases hx : l = x
    · subst hx
      rw [hfx.out] at htk
      have hs := Lib.hid hs
      clear hk ht
      go_wp2_with (first | (go_at_call 37; (with_reducible refine htk.mono ?_); rintro e w2 ⟨rfl, hb2⟩; have d2 := (hb2.cell (p := ⟨g, 2, none⟩) hlt).trans c2; have hs2 := Lib.hid (hs.out.below hb2); have hu := use_yes l (by omega) w2 hs2.out (by omega) (by omega) hfx.out (by omega)) | (go_at_call 62; (with_reducible refine hu.mono ?_); rintro e w3 ⟨rfl, hs3, hk3⟩; obtain ⟨-, -, e2, -⟩ := hs3.cells; have hs3 := Lib.hid hs3))
      go_ret
      exact ⟨rfl, hs3.out, hkp.trans ((Keeps.ofBelow hb2 _).trans hk3)⟩
    · have hfl : f l = true := hall.out l (by omega) (by omega)
      rw [hfl] at htk
      have hfl := Lib.hid hfl
      have hs := Lib.hid hs
      have hkp := Lib.hid hkp
      clear ht
      go_wp2_with (go_at_call 37; (with_reducible refine htk.mono ?_); rintro e w2 ⟨rfl, hb2⟩; have d2 := (hb2.cell (p := ⟨g, 2, none⟩) hlt).trans c2; have hs2 := Lib.hid (hs.out.below hb2); have hfz := hs2.out.free 2)
      go_roundg (x - (l + 1)).toNat
      case measure => omega
      case rel => exact ⟨l + 1, by omega, by omega, rfl, hs2.out.setLeast rfl, (hkp.out.trans (Keeps.ofBelow hb2 _)).setCell (Or.inl (by simp)) _⟩

end Go.Proofs.YtcdcipfojfnblaaGreatDoor.space
