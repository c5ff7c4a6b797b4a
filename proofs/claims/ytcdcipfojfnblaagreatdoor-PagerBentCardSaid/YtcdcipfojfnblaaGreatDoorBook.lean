/- The book (package book): the sums of texts, each noted once; the law BookReal. The table of salts is a premise. No other condition. -/
import Derived.Test.YtcdcipfojfnblaaGreatDoorMgShR
import Derived.Test.YtcdcipfojfnblaaGreatDoorMgHm
import Derived.StringKeys
namespace Go.Proofs.YtcdcipfojfnblaaGreatDoor.sha
open Go.RowKit
attribute [local go_sem ↓] Go.wp_at_zero Go.wp_at_succ
attribute [local go_sem] str_size str_append
set_option linter.unusedVariables false
set_option maxRecDepth 100000

section
variable {H : Type}
/-- how a note reads -/
def noteElem : Value → Option (DataW H × List MemPlace)
  | .agg cs => match cs.toList with
    | [.string s] => some (.lit (.string s.data.toList), [])
    | _ => none
  | _ => none
theorem noteElem_mk (s : ByteArray) : noteElem (H := H) (.agg #[.string s]) = some (.lit (.string s.data.toList), []) := rfl
theorem noteElem_inv {v : Value} {z : DataW H × List MemPlace} (h : noteElem v = some z) : ∃ s : ByteArray, v = .agg #[.string s] ∧ z = (.lit (.string s.data.toList), []) := by
  unfold noteElem at h
  split at h
  · split at h
    · rename_i cs _ s hs
      refine ⟨s, ?_, (Option.some.inj h).symm⟩
      have : cs = #[.string s] := by rw [← Array.toList_inj]; exact hs
      rw [this]
    · cases h
  · cases h
end
/-- what a book holds: texts by their sums, how many, the twins, whether it is full -/
structure BSt where
  f : List UInt8 → Option (List UInt8)
  c : Nat
  x : List UInt8
  y : List UInt8
  tw : Bool
  fu : Bool
def BSt.none : BSt := ⟨fun _ => .none, 0, [], [], false, false⟩
def BSt.twin (st : BSt) (t s : List UInt8) : BSt := { st with x := t, y := s, tw := true }
def BSt.more (st : BSt) (k s : List UInt8) : BSt := { st with f := fun j => if j = k then some s else st.f j, c := st.c + 1 }
def BSt.brim (st : BSt) : BSt := { st with fu := true }
structure BookAt (w : World) (g m : Nat) (st : BSt) : Prop where
  blk : w.heap[g]? = some (.cells #[.map (some m), .string (str st.x), .string (str st.y), .bool st.tw, .bool st.fu] 125 (0, 0))
  ne : g ≠ m
  own : ∃ D : DataW Unit, w.ownsMap Tryz.prog 9 noteElem m st.c D ∧ Maps.size D = st.c ∧ (∀ k, Maps.has D (.string k) = (st.f k).isSome) ∧ (∀ k t z, st.f k = some t → D.atKey (.string k) z = .lit (.string t))
section
variable {w w' : World} {g m : Nat} {st : BSt}
theorem BookAt.keep (h : BookAt w g m st) {X : List Nat} (k : Keeps X w w') (hg : g ∉ X) (hm : m ∉ X) : BookAt w' g m st := by
  obtain ⟨D, h1, h2, h3, h4⟩ := h.own
  exact ⟨(k.block _ (block_lt h.blk) hg).trans h.blk, h.ne, D, ownsMap_of_block h1 (k.block _ (ownsMap_lt h1) hm), h2, h3, h4⟩
theorem BookAt.below (h : BookAt w g m st) (k : Below w.heap.size w w') : BookAt w' g m st := h.keep (Keeps.ofBelow k []) (by simp) (by simp)
theorem BookAt.cells (h : BookAt w g m st) : w.cell? ⟨g, 0, none⟩ = some (.map (some m)) ∧ w.cell? ⟨g, 1, none⟩ = some (.string (str st.x)) ∧ w.cell? ⟨g, 2, none⟩ = some (.string (str st.y)) ∧ w.cell? ⟨g, 3, none⟩ = some (.bool st.tw) ∧ w.cell? ⟨g, 4, none⟩ = some (.bool st.fu) :=
  ⟨cell_of_row _ _ 0 _ _ _ h.blk, cell_of_row _ _ 1 _ _ _ h.blk, cell_of_row _ _ 2 _ _ _ h.blk, cell_of_row _ _ 3 _ _ _ h.blk, cell_of_row _ _ 4 _ _ _ h.blk⟩
theorem BookAt.lt (h : BookAt w g m st) : g < w.heap.size ∧ m < w.heap.size := by
  obtain ⟨D, h1, _, _⟩ := h.own
  exact ⟨block_lt h.blk, ownsMap_lt h1⟩
theorem BookAt.free (h : BookAt w g m st) (i : Nat) : w.frozen? ⟨g, i, none⟩ = false := by simp [World.frozen?, h.blk]
theorem nilMap (m : Nat) (w : World) : (binOp .eql 123 (.map (some m)) (.map none)).run Tryz.prog w = .ok (.bool false) w := by kernel_rfl
theorem zeroNote (w : World) : (zeroValue 169).run Tryz.prog w = .ok (.agg #[.string ⟨#[]⟩]) w := by kernel_rfl
theorem keyedStr : Maps.Keyed Tryz.prog 9 := Maps.string_keyed Tryz.underlying9
theorem keyStr (k : List UInt8) (hk : k.length ≤ 1000000000) : keyOf Tryz.prog 9 (.string (str k)) = some (.string k) := WideMaps.keyOf_string_mk Tryz.underlying9 (by rw [str_size]; unfold maxLen; omega)
theorem BookAt.look (h : BookAt w g m st) {k : List UInt8} (hk : k.length ≤ 1000000000) : ∃ v, (Instr.lookup 123 (.map (some m)) (.string (str k)) true).run Tryz.prog w = .ok (.tuple #[.agg #[.string v], .bool (st.f k).isSome]) w ∧ ∀ t, st.f k = some t → v = str t := by
  obtain ⟨D, h1, h2, h3, h4⟩ := h.own
  obtain ⟨v, ps, hr, hv⟩ := h1.look_ok keyedStr Tryz.underlying123 (zeroNote w) (noteElem_mk ⟨#[]⟩) (keyStr k hk)
  obtain ⟨s, rfl, hz⟩ := noteElem_inv hv
  rw [h3] at hr
  refine ⟨s, hr, fun t ht => ?_⟩
  have := h4 k t (.lit (.string (⟨#[]⟩ : ByteArray).data.toList)) ht
  rw [this] at hz
  have e : t = s.data.toList := by injection hz with e1 _; injection e1 with e2; injection e2
  rw [e]; rfl
theorem BookAt.len (h : BookAt w g m st) (ty : TypeId) : (Builtin.len_ #[123] ty #[.map (some m)]).run Tryz.prog w = .ok (.int .i64 st.c) w := by
  obtain ⟨D, h1, h2, h3, h4⟩ := h.own
  have := h1.len Tryz.underlying123 ty
  rw [h2] at this; exact this
theorem BookAt.setTwins (h : BookAt w g m st) (t s : List UInt8) : BookAt (((w.setCell ⟨g, 1, none⟩ (.string (str t))).setCell ⟨g, 2, none⟩ (.string (str s))).setCell ⟨g, 3, none⟩ (.bool true)) g m (st.twin t s) := by
  obtain ⟨D, h1, h2, h3, h4⟩ := h.own
  exact ⟨by simp [World.setCell, Array.getElem?_modify, h.blk, BSt.twin], h.ne, D, ((h1.setCell (Ne.symm h.ne) _).setCell (Ne.symm h.ne) _).setCell (Ne.symm h.ne) _, h2, h3, h4⟩
theorem BookAt.setFull (h : BookAt w g m st) : BookAt (w.setCell ⟨g, 4, none⟩ (.bool true)) g m st.brim := by
  obtain ⟨D, h1, h2, h3, h4⟩ := h.own
  exact ⟨by simp [World.setCell, Array.getElem?_modify, h.blk, BSt.brim], h.ne, D, h1.setCell (Ne.symm h.ne) _, h2, h3, h4⟩
theorem BookAt.put (h : BookAt w g m st) {k s : List UInt8} {D : DataW Unit} {c : Nat} (hc : c = st.c) (hT : Maps.Tidy D) (hs : Maps.size D = st.c) (hh : ∀ j, Maps.has D (.string j) = (st.f j).isSome) (ha : ∀ j t z, st.f j = some t → D.atKey (.string j) z = .lit (.string t)) (hn : st.f k = .none)
    (h1 : w'.ownsMap Tryz.prog 9 noteElem m (c + 1) (D.put (.string k) (.lit (.string s)))) (ht : w.mapTurned w' m) : BookAt w' g m (st.more k s) ∧ Keeps [g, m] w w' := by
  subst hc
  have hk2 : Keeps [m] w w' := (Keeps.refl [m] w).turned (Or.inl (by simp)) ht
  have hne : ∀ j, j ≠ k → (Lit.string j) ≠ (Lit.string k) := fun j e q => by injection q with q; exact e q
  refine ⟨⟨(hk2.block _ (block_lt h.blk) (by simpa using h.ne)).trans h.blk, h.ne, _, h1, ?_, ?_, ?_⟩, hk2.more (fun y hy => Or.inl (by simp at hy; simp [hy]))⟩
  · rw [Maps.size_put hT, hh, hn, hs]; simp [BSt.more]
  · intro j
    by_cases e : j = k
    · subst e; rw [Maps.has_put_same hT.isMap (show WideAt.IsKeyLit (Lit.string _) from trivial)]; simp [BSt.more]
    · rw [Maps.has_put_other (hne j e), hh]; simp [BSt.more, e]
  · intro j t z
    by_cases e : j = k
    · subst e; intro hj; simp [BSt.more] at hj; subst hj; rw [Maps.atKey_put_same hT.isMap (show WideAt.IsKeyLit (Lit.string _) from trivial)]
    · intro hj; simp [BSt.more, e] at hj; rw [Maps.atKey_put_other (hne j e)]; exact ha j t z hj
end
theorem book_made (w : World) : BookAt ((w.alloc (.map #[] 0)).alloc (.cells #[.map (some w.heap.size), .string ⟨#[]⟩, .string ⟨#[]⟩, .bool false, .bool false] 125)) (w.heap.size + 1) w.heap.size .none := by
  have h0 : ((w.alloc (.map #[] 0)).alloc (.cells #[.map (some w.heap.size), .string ⟨#[]⟩, .string ⟨#[]⟩, .bool false, .bool false] 125)).heap[w.heap.size + 1]? = some (.cells #[.map (some w.heap.size), .string ⟨#[]⟩, .string ⟨#[]⟩, .bool false, .bool false] 125) := by
    have := heap_alloc_new (w.alloc (.map #[] 0)) (.cells #[.map (some w.heap.size), .string ⟨#[]⟩, .string ⟨#[]⟩, .bool false, .bool false] 125)
    simpa using this
  exact ⟨h0, by omega, .map [], ownsMap_of_block (World.ownsMap_made w _ _ _) (Below.heap_alloc _ _ _ (by simp)), rfl, fun _ => rfl, fun _ _ _ h => by cases h⟩
theorem bnew_any (w : World) : Calls Tryz.prog 32 #[] w fun e w' => e = .returned (.pointer (some ⟨w.heap.size + 1, 0, none⟩)) ∧ BookAt w' (w.heap.size + 1) w.heap.size .none ∧ Below w.heap.size w w' := by
  have hmm := @run_makeMap Tryz.prog
  go_enter Tryz.func32, Tryz.ntmps32
  go_wp2
  go_ret
  exact ⟨rfl, book_made w, by go_grown⟩
def noteS (st : BSt) (k s : List UInt8) : BSt :=
  if st.tw = true then st else match st.f k with
    | some t => if t = s then st else st.twin t s
    | none => if 8192 ≤ st.c then st.brim else st.more k s
set_option maxHeartbeats 2000000 in
theorem note_any (k s : List UInt8) (hk : k.length ≤ 1000000000) (hs : s.length ≤ 1000000000) (w : World) {g m : Nat} {st : BSt} (h : BookAt w g m st) (hc : st.c ≤ 8192) :
    Calls Tryz.prog 69 #[.pointer (some ⟨g, 0, none⟩), .string (str k), .string (str s)] w fun e w' => e = .returned (.tuple #[]) ∧ BookAt w' g m (noteS st k s) ∧ Keeps [g, m] w w' := by
  obtain ⟨c0, c1, c2, c3, c4⟩ := h.cells
  by_cases htw : st.tw = true
  · have e : noteS st k s = st := by unfold noteS; rw [if_pos htw]
    rw [htw] at c3
    rw [e]
    replace h := Lib.hid h
    clear e htw hc hk hs
    go_enter Tryz.func69, Tryz.ntmps69
    go_wp2
    go_returns
    exact ⟨rfl, h.out, Keeps.refl _ _⟩
  have htw2 : st.tw = false := by simpa using htw
  rw [htw2] at c3
  obtain ⟨v, hl, hv⟩ := h.look hk
  have hbx : ∀ u, BookAt (w.alloc (.cells #[.string u] 169)) g m st := fun u => h.below ((Below.refl _ w).alloc (Nat.le_refl _) _)
  have kbx : ∀ u, Keeps [g, m] w (w.alloc (.cells #[.string u] 169)) := fun u => (Keeps.refl _ w).alloc _
  cases hf : st.f k with
  | some t =>
    rw [hf] at hl
    obtain rfl := hv t hf
    have hl : (Instr.lookup 123 (.map (some m)) (.string (str k)) true).run Tryz.prog w = .ok (.tuple #[.agg #[.string (str t)], .bool true]) w := hl
    by_cases hts : t = s
    · subst hts
      have e : noteS st k t = st := by unfold noteS; rw [if_neg htw, hf]; simp
      rw [e]
      have hb : ((str t).toList == (str t).toList) = true := by simp
      replace h := Lib.hid h; replace hk := Lib.hid hk; replace hf := Lib.hid hf; replace hbx := Lib.hid hbx; replace kbx := Lib.hid kbx
      clear e htw htw2 hv hc hs
      go_enter Tryz.func69, Tryz.ntmps69
      go_wp2
      go_returns
      exact ⟨rfl, hbx.out _, kbx.out _⟩
    · have e : noteS st k s = st.twin t s := by unfold noteS; rw [if_neg htw, hf]; simp [hts]
      rw [e]
      have hb : ((str t).toList == (str s).toList) = false := by rw [str_bl, str_bl]; exact beq_eq_false_iff_ne.mpr hts
      have hb2 : ¬ str t = str s := fun e => hts (congrArg (fun x => x.data.toList) e)
      have f1 := (hbx (str t)).free 1
      have f2 := (hbx (str t)).free 2
      have f3 := (hbx (str t)).free 3
      obtain ⟨d0, d1, d2, d3, d4⟩ := (hbx (str t)).cells
      rw [htw2] at d3
      replace h := Lib.hid h; replace hk := Lib.hid hk; replace hf := Lib.hid hf; replace hbx := Lib.hid hbx; replace kbx := Lib.hid kbx
      clear e htw htw2 hv hc hs hts
      go_enter Tryz.func69, Tryz.ntmps69
      go_wp2
      go_returns
      exact ⟨rfl, (hbx.out _).setTwins t s, (((kbx.out _).setCell (Or.inl (by simp)) _).setCell (Or.inl (by simp)) _).setCell (Or.inl (by simp)) _⟩
  | none =>
    rw [hf] at hl
    have hl : (Instr.lookup 123 (.map (some m)) (.string (str k)) true).run Tryz.prog w = .ok (.tuple #[.agg #[.string v], .bool false]) w := hl
    have hln := fun ty => (hbx v).len ty
    obtain ⟨d0, d1, d2, d3, d4⟩ := (hbx v).cells
    rw [htw2] at d3
    by_cases hfull : 8192 ≤ st.c
    · have e : noteS st k s = st.brim := by unfold noteS; rw [if_neg htw, hf]; simp [hfull]
      rw [e]
      have hb : (8192 : Int) ≤ (st.c : Int) := by omega
      have f4 := (hbx v).free 4
      replace h := Lib.hid h; replace hk := Lib.hid hk; replace hf := Lib.hid hf; replace hbx := Lib.hid hbx; replace kbx := Lib.hid kbx
      clear e htw htw2 hv hc hs hfull
      go_enter Tryz.func69, Tryz.ntmps69
      go_wp2
      go_returns
      exact ⟨rfl, (hbx.out _).setFull, (kbx.out _).setCell (Or.inl (by simp)) _⟩
    · have e : noteS st k s = st.more k s := by unfold noteS; rw [if_neg htw, hf]; simp [hfull]
      have hnm := fun w' => nilMap m w'
      rw [e]
      have hb : ¬ (8192 : Int) ≤ (st.c : Int) := by omega
      obtain ⟨D, hown, hsz, hh, ha⟩ := (hbx v).own
      have hkey := keyStr k hk
      obtain ⟨c, hcc⟩ : ∃ c, c = st.c := ⟨_, rfl⟩
      rw [← hcc] at hb hfull hc hown hln
      have hT := hown.tidy keyedStr
      replace h := Lib.hid h; replace hk := Lib.hid hk; replace hf := Lib.hid hf; replace hsz := Lib.hid hsz; replace hh := Lib.hid hh; replace ha := Lib.hid ha; replace hT := Lib.hid hT; replace hcc := Lib.hid hcc; replace hbx := Lib.hid hbx; replace kbx := Lib.hid kbx
      clear e htw htw2 hv hs
      go_enter Tryz.func69, Tryz.ntmps69
      go_wp2_with (at_mapUpdate; refine wpList_mapUpdate_in _ rfl _ _ _ 123 rfl 9 169 keyedStr Tryz.underlying123 noteElem m c D rfl hown ?hroom _ _ (.string k) rfl rfl hkey _ [] (noteElem_mk _) ?_; (case hroom => unfold maxLen; omega); intro w2 hown2 hturn2; obtain ⟨hs2, hk2⟩ := (hbx.out _).put hcc.out hT.out hsz.out hh.out ha.out hf.out hown2 hturn2; replace hs2 := Lib.hid hs2; replace hk2 := Lib.hid hk2)
      go_end0
      exact ⟨rfl, hs2.out, (kbx.out _).trans hk2.out⟩
theorem bsum_any (s : List UInt8) (hs : s.length ≤ 1000000000) (w : World) {g m : Nat} {st : BSt} (h : BookAt w g m st) (hc : st.c ≤ 8192) (hT : SaltAt w salts) :
    Calls Tryz.prog 45 #[.pointer (some ⟨g, 0, none⟩), .string (str s)] w fun e w' => e = .returned (.string (str (shaB salts s))) ∧ BookAt w' g m (noteS st (shaB salts s) s) ∧ Keeps [g, m] w w' := by
  have c1 := sum_any salts salts_small s hs w hT
  have c2 : ∀ w', Below w.heap.size w w' → Calls Tryz.prog 69 #[.pointer (some ⟨g, 0, none⟩), .string (str (shaB salts s)), .string (str s)] w' fun e w2 => e = .returned (.tuple #[]) ∧ BookAt w2 g m (noteS st (shaB salts s) s) ∧ Keeps [g, m] w' w2 := fun w' b => note_any _ s (by rw [shaB_len]; decide) hs w' (h.below b) hc
  obtain ⟨S, hS⟩ : ∃ S, S = shaB salts s := ⟨_, rfl⟩
  rw [← hS] at c1 c2 ⊢
  clear hS hc hT h hs
  replace c1 := Lib.hid c1; replace c2 := Lib.hid c2
  go_enter Tryz.func45, Tryz.ntmps45
  go_wp2_with (first
    | (go_at_call 68; (with_reducible refine c1.out.mono ?_); rintro e w1 ⟨rfl, b1⟩; replace b1 := Lib.hid b1)
    | (go_at_call 69; (with_reducible refine (c2.out _ b1.out).mono ?_); rintro e w2 ⟨rfl, h2, k2⟩; replace h2 := Lib.hid h2; replace k2 := Lib.hid k2))
  go_ret
  exact ⟨rfl, h2.out, (Keeps.ofBelow b1.out _).trans k2.out⟩
theorem bsum_nil (s : List UInt8) (hs : s.length ≤ 1000000000) (w : World) (hT : SaltAt w salts) :
    Calls Tryz.prog 45 #[.pointer none, .string (str s)] w fun e w' => e = .returned (.string (str (shaB salts s))) ∧ Below w.heap.size w w' := by
  have c1 := sum_any salts salts_small s hs w hT
  clear hT hs
  replace c1 := Lib.hid c1
  go_enter Tryz.func45, Tryz.ntmps45
  go_wp2_with (go_at_call 68; (with_reducible refine c1.out.mono ?_); rintro e w1 ⟨rfl, b1⟩; replace b1 := Lib.hid b1)
  go_ret
  exact ⟨rfl, b1.out⟩
theorem blen_any (w : World) {g m : Nat} {st : BSt} (h : BookAt w g m st) : Calls Tryz.prog 27 #[.pointer (some ⟨g, 0, none⟩)] w fun e w' => e = .returned (.int .i64 st.c) ∧ Below w.heap.size w w' := by
  obtain ⟨c0, c1, c2, c3, c4⟩ := h.cells
  have hl := fun ty => h.len ty
  clear h
  go_enter Tryz.func27, Tryz.ntmps27
  go_wp2
  go_ret
  exact ⟨rfl, by go_grown⟩
theorem blen_nil (w : World) : Calls Tryz.prog 27 #[.pointer none] w fun e w' => e = .returned (.int .i64 0) ∧ Below w.heap.size w w' := by
  go_enter Tryz.func27, Tryz.ntmps27
  go_wp2
  go_ret
  exact ⟨rfl, by go_grown⟩
theorem btwins_any (w : World) {g m : Nat} {st : BSt} (h : BookAt w g m st) : Calls Tryz.prog 29 #[.pointer (some ⟨g, 0, none⟩)] w fun e w' => e = .returned (.tuple #[.string (str st.x), .string (str st.y), .bool st.tw]) ∧ Below w.heap.size w w' := by
  obtain ⟨c0, c1, c2, c3, c4⟩ := h.cells
  clear h
  go_enter Tryz.func29, Tryz.ntmps29
  go_wp2
  go_quiet (fail)
  go_wp2_with fail
  go_returns
  exact ⟨rfl, belowDrewN (Below.refl _ _) _⟩
theorem btwins_nil (w : World) : Calls Tryz.prog 29 #[.pointer none] w fun e w' => e = .returned (.tuple #[.string ⟨#[]⟩, .string ⟨#[]⟩, .bool false]) ∧ Below w.heap.size w w' := by
  go_enter Tryz.func29, Tryz.ntmps29
  go_wp2
  go_returns
  exact ⟨rfl, by go_grown⟩
end Go.Proofs.YtcdcipfojfnblaaGreatDoor.sha
