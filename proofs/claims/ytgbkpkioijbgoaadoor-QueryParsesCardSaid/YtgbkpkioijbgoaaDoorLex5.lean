/- The words of a question (package lex): all of them. The table of marks is a premise. No other condition. -/
import Derived.Test.YtgbkpkioijbgoaaDoorLex4
import Derived.Test.YtgbkpkioijbgoaaDoorJumps
import Derived.Laws.StructEq
import Derived.Deep.CutBlock
import Derived.Deep.DeepCutAuto
import Derived.Deep.CutRange
namespace Go.Proofs.YtgbkpkioijbgoaaDoor.lex
open Go.RowKit
attribute [local go_sem ↓] Go.wp_at_zero Go.wp_at_succ
attribute [local go_sem] str_size
set_option linter.unusedVariables false
set_option maxRecDepth 100000

def wcells (x : W) : List Value := [.int .i64 (x.kind : Int), .string (str x.s), .int .i64 (x.n : Int), .int .i64 (x.pos : Int)]
def allcells (l : List W) : List Value := l.flatMap wcells
theorem allcells_append (a b : List W) : allcells (a ++ b) = allcells a ++ allcells b := by simp [allcells]
/-- the slice v is a row of the call's own, from block number 'base' on, that holds these words -/
def WRow (w : World) (base : Nat) (v : Value) (l : List W) : Prop := w.ownsRow base 71 4 v l.length (allcells l)
theorem WRow.nil (w : World) (base : Nat) : WRow w base (.slice none 0 0) [] := World.ownsRow_nil w base 71 4
theorem WRow.below {w w' : World} {base : Nat} {v : Value} {l : List W} (h : WRow w base v l) (k : Below w.heap.size w w') : WRow w' base v l :=
  World.ownsRow.kept (row := none) h ⟨k.os, k.tape, k.output, k.size, fun i hi _ => k.block i hi⟩ (by rcases h' : v.ownBlock with _ | b; exact Or.inl rfl; exact Or.inr (by simp))
theorem WRow.alloc {w : World} {base : Nat} {v : Value} {l : List W} (h : WRow w base v l) (o : Obj) : WRow (w.alloc o) base v l := World.ownsRow.alloc h o
theorem wordInfo : (Tryd.prog.info? 71).map (fun i => (i.zero, i.size, i.bytes)) = some (some noW, 4, 40) := by kernel_rfl
theorem wpList_append_word {w : World} {ops : Array Oper} {rest : List Oper} {o : Oper} {a : Act} {Q : Exit → Act → World → Prop} (hgd : o.guard = none) (s x : Operand)
    (ho : o.op = .call { callee := .builtin .append, args := #[s, x], argTypes := #[63, 63] })
    (base : Nat) (v : Value) (l : List W) (hs : a.eval s = v) (hown : WRow w base v l) (g c : Nat) (y : W) (hx : a.eval x = .slice (some ⟨g, 0, none⟩) 1 c) (hc : ∀ i, w.cell? ⟨g, i, none⟩ = (wcells y)[i]?)
    (hl : l.length < 1000000) (hbase : base ≤ w.heap.size)
    (h : ∀ v' w', WRow w' base v' (l ++ [y]) → w.grownBy w' v.ownBlock → wpList Tryd.prog ops Q rest (a.put o.dst v') w') : wpList Tryd.prog ops Q (o :: rest) a w := by
  obtain ⟨i, hi, hz, hsz, hby⟩ := info_parts wordInfo
  refine wpList_append_own w hgd s x 63 ho base 71 i noW 4 40 Tryd.underlying63 hi hz hsz hby rfl (by decide) v l.length (allcells l) hs hown ⟨g, 0, none⟩ 1 c (wcells y) hx rfl ?_ ?_ ?_ ?_ hbase ?_
  · intro j u hj
    have := hc j
    rw [hj] at this
    rw [show (⟨g, 0, none⟩ : Addr).add j = ⟨g, 0 + j, none⟩ from by unfold Addr.add; split <;> simp_all]
    simpa using this
  · intro u hu; simp [wcells] at hu; rcases hu with rfl | rfl | rfl | rfl <;> rfl
  · unfold maxLen; omega
  · omega
  · intro v' w' h1 h2 _
    refine h v' w' ?_ h2
    unfold WRow
    rw [allcells_append, List.length_append]
    simpa [allcells] using h1
theorem new_word (w : World) (y : W) (t : TypeId) (i : Nat) : (w.alloc (.cells #[.int .i64 (y.kind : Int), .string (str y.s), .int .i64 (y.n : Int), .int .i64 (y.pos : Int)] t)).cell? ⟨w.heap.size, i, none⟩ = (wcells y)[i]? := by
  rw [newCell]; simp [wcells]
/-- the box of a word -/
def Box4 (w : World) (g : Nat) (y : W) : Prop := w.heap[g]? = some (.cells #[.int .i64 (y.kind : Int), .string (str y.s), .int .i64 (y.n : Int), .int .i64 (y.pos : Int)] 71 (0, 0))
theorem Box4.cell {w : World} {g : Nat} {y : W} (h : Box4 w g y) (i : Nat) : w.cell? ⟨g, i, none⟩ = (#[.int .i64 (y.kind : Int), .string (str y.s), .int .i64 (y.n : Int), .int .i64 (y.pos : Int)] : Array Value)[i]? := cell_of_row _ _ i _ _ _ h
theorem Box4.free {w : World} {g : Nat} {y : W} (h : Box4 w g y) (i : Nat) : w.frozen? ⟨g, i, none⟩ = false := by unfold Box4 at h; simp [World.frozen?, h]
theorem Box4.below {w w' : World} {g : Nat} {y : W} (h : Box4 w g y) (b : Below w.heap.size w w') : Box4 w' g y := (b.block _ (block_lt h)).trans h
theorem Box4.set {w : World} {g : Nat} {y : W} (h : Box4 w g y) (z : W) : Box4 ((((w.setCell ⟨g, 0, none⟩ (.int .i64 (z.kind : Int))).setCell ⟨g, 1, none⟩ (.string (str z.s))).setCell ⟨g, 2, none⟩ (.int .i64 (z.n : Int))).setCell ⟨g, 3, none⟩ (.int .i64 (z.pos : Int))) g z := by
  unfold Box4 at h ⊢
  simp [World.setCell, Array.getElem?_modify, h]
theorem WRow.set1 {w : World} {base g i : Nat} {x : Value} {v : Value} {l : List W} (h : WRow w base v l) (hg : g < base) : WRow (w.setCell ⟨g, i, none⟩ x) base v l :=
  World.ownsRow.kept (row := some g) h ⟨rfl, rfl, rfl, by simp [World.setCell], fun k hk hne => Below.heap_setCell w ⟨g, i, none⟩ x k (by rintro rfl; exact hne rfl)⟩ (by
    rcases h' : v.ownBlock with _ | b
    · exact Or.inl rfl
    · refine Or.inr ?_
      intro e
      injection e with e
      subst e
      have := (World.ownsRow.lt h _ h').1
      omega)
theorem WRow.set4 {w : World} {base g : Nat} {a b c d : Value} {v : Value} {l : List W} (h : WRow w base v l) (hg : g < base) : WRow ((((w.setCell ⟨g, 0, none⟩ a).setCell ⟨g, 1, none⟩ b).setCell ⟨g, 2, none⟩ c).setCell ⟨g, 3, none⟩ d) base v l := (((h.set1 hg).set1 hg).set1 hg).set1 hg
def zeroW : W := ⟨0, [], 0, 0⟩
/-- what stands in the box, and where the word ends, behind the trial of a word -/
def endOf (q : Nat) (r : Option (W × Nat)) : Int := match r with
  | some x => ((q + x.2 : Nat) : Int)
  | none => -1
def wordOf (r : Option (W × Nat)) : W := match r with
  | some x => x.1
  | none => zeroW
def trialV (q : Nat) (r : Option (W × Nat)) : Value := .tuple #[wv (wordOf r), .int .i64 (endOf q r)]
theorem numV_trial (q : Nat) (o : Option (Nat × Nat)) : numV q o = trialV q (o.map fun x => (⟨2, [], x.1, q⟩, x.2)) := by cases o <;> rfl
theorem textV_trial (q : Nat) (o : Option (List UInt8 × Nat)) : textV q o = trialV q (o.map fun x => (⟨3, x.1, 0, q⟩, x.2)) := by cases o <;> rfl
theorem markV_trial (r : List UInt8) (q : Nat) : markV r q = trialV q (if markN r = 0 then none else some (⟨4, r.take (markN r), 0, q⟩, markN r)) := by unfold markV; split <;> rfl
def blankI (c : UInt8) : Int := if c = 32 then 0 else if c = 9 then 1 else if c = 10 then 2 else -1
theorem blankI_eq (c : UInt8) : (Lib.indexByte [32, 9, 10] c) = blankI c := by
  unfold blankI
  simp only [Lib.indexByte]
  by_cases h1 : c = 32
  · subst h1; rfl
  · by_cases h2 : c = 9
    · subst h2; rfl
    · by_cases h3 : c = 10
      · subst h3; rfl
      · have e1 : ((32 : UInt8) == c) = false := by simpa using fun h => h1 h.symm
        have e2 : ((9 : UInt8) == c) = false := by simpa using fun h => h2 h.symm
        have e3 : ((10 : UInt8) == c) = false := by simpa using fun h => h3 h.symm
        simp [e1, e2, e3, h1, h2, h3]
theorem blank_yes (c : UInt8) (h : blankB c = true) : 0 ≤ blankI c := by
  unfold blankB at h; unfold blankI
  split
  · omega
  · split
    · omega
    · split
      · omega
      · rename_i h1 h2 h3
        simp at h
        have k : ∀ d : UInt8, c.toNat = d.toNat → c = d := fun d h => UInt8.toNat_inj.1 h
        rcases h with (h | h) | h
        · exact absurd (k 32 h) h1
        · exact absurd (k 9 h) h2
        · exact absurd (k 10 h) h3
theorem blank_no (c : UInt8) (h : blankB c = false) : blankI c = -1 := by
  unfold blankB at h; unfold blankI
  simp at h
  rw [if_neg (by rintro rfl; exact h.1.1 rfl), if_neg (by rintro rfl; exact h.1.2 rfl), if_neg (by rintro rfl; exact h.2 rfl)]
theorem index_any (c : UInt8) (w : World) : Calls Tryd.prog 47 #[.string ⟨#[32, 9, 10]⟩, .int .u8 (c.toNat : Int)] w fun e w' => e = .returned (.int .i64 (blankI c)) ∧ w = w' :=
  (Go.Proofs.Tryd.strings_IndexByte ⟨#[32, 9, 10]⟩ (c.toNat : Int) w).mono fun e w' ⟨he, hw⟩ => ⟨by rw [he]; congr 1; rw [← blankI_eq]; simp, hw.symm⟩
/-- what Words hands back -/
def WordsRet (w : World) (r : Option (List W) × Nat) (e : Ending) (w' : World) : Prop := Below w.heap.size w w' ∧ match r.1 with
  | some ws => ∃ v, e = .returned (.tuple #[v, .int .i64 0, .int .i64 0]) ∧ WRow w' (w.heap.size + 1) v ws ∧ ws.length ≤ 1001
  | none => e = .returned (.tuple #[.slice none 0 0, .int .i64 (r.2 : Int), .int .i64 320])
theorem frame82 (t : Array Value) (h : t.size = 82) : ∃ u : Nat → Value, (∀ i, t.getD i undef = u i) ∧ t = #[u 0, u 1, u 2, u 3, u 4, u 5, u 6, u 7, u 8, u 9, u 10, u 11, u 12, u 13, u 14, u 15, u 16, u 17, u 18, u 19, u 20, u 21, u 22, u 23, u 24, u 25, u 26, u 27, u 28, u 29, u 30, u 31, u 32, u 33, u 34, u 35, u 36, u 37, u 38, u 39, u 40, u 41, u 42, u 43, u 44, u 45, u 46, u 47, u 48, u 49, u 50, u 51, u 52, u 53, u 54, u 55, u 56, u 57, u 58, u 59, u 60, u 61, u 62, u 63, u 64, u 65, u 66, u 67, u 68, u 69, u 70, u 71, u 72, u 73, u 74, u 75, u 76, u 77, u 78, u 79, u 80, u 81] := by
  refine ⟨fun i => t.getD i undef, fun _ => rfl, ?_⟩
  obtain ⟨u, hu⟩ : ∃ u : Nat → Value, ∀ i, t.getD i undef = u i := ⟨_, fun _ => rfl⟩
  simp only [hu]
  have e : t = ((List.range 82).map u).toArray := by
    apply Array.ext
    · simp [h]
    · intro i h1 h2
      have := hu i
      rw [Array.getD_eq_getD_getElem?, Array.getElem?_eq_getElem h1] at this
      simpa using this
  rw [e]
  rfl
/-- the frame at a label -/
structure At (l : List UInt8) (g : Nat) (v : Value) (q : Nat) (a : Act) : Prop where
  size : a.tmps.size = 82
  defers : a.defers = []
  t0 : a.tmps.getD 0 undef = .string (str l)
  t1 : a.tmps.getD 1 undef = undef
  t2 : a.tmps.getD 2 undef = .slice none 0 0
  t3 : a.tmps.getD 3 undef = .int .i64 0
  t4 : a.tmps.getD 4 undef = .int .i64 0
  t5 : a.tmps.getD 5 undef = v
  t6 : a.tmps.getD 6 undef = .pointer (some ⟨g, 0, none⟩)
  t7 : a.tmps.getD 7 undef = .int .i64 (q : Int)
theorem At.form {l : List UInt8} {g : Nat} {v : Value} {q : Nat} {a : Act} (h : At l g v q a) : ∃ u : Nat → Value, a = { tmps := #[.string (str l), undef, .slice none 0 0, .int .i64 0, .int .i64 0, v, .pointer (some ⟨g, 0, none⟩), .int .i64 (q : Int), u 8, u 9, u 10, u 11, u 12, u 13, u 14, u 15, u 16, u 17, u 18, u 19, u 20, u 21, u 22, u 23, u 24, u 25, u 26, u 27, u 28, u 29, u 30, u 31, u 32, u 33, u 34, u 35, u 36, u 37, u 38, u 39, u 40, u 41, u 42, u 43, u 44, u 45, u 46, u 47, u 48, u 49, u 50, u 51, u 52, u 53, u 54, u 55, u 56, u 57, u 58, u 59, u 60, u 61, u 62, u 63, u 64, u 65, u 66, u 67, u 68, u 69, u 70, u 71, u 72, u 73, u 74, u 75, u 76, u 77, u 78, u 79, u 80, u 81], defers := [] } := by
  obtain ⟨u, hu, ht⟩ := frame82 a.tmps h.size
  refine ⟨u, ?_⟩
  obtain ⟨t, d⟩ := a
  have hd : d = [] := h.defers
  subst hd
  congr 1
  rw [← (hu 0).symm.trans h.t0, ← (hu 1).symm.trans h.t1, ← (hu 2).symm.trans h.t2, ← (hu 5).symm.trans h.t5, ← (hu 6).symm.trans h.t6, ← (hu 7).symm.trans h.t7]
  have h3 : u 3 = .int .i64 0 := (hu 3).symm.trans h.t3
  have h4 : u 4 = .int .i64 0 := (hu 4).symm.trans h.t4
  have ht2 : t = _ := ht
  rw [ht2, h3, h4]
/-- at label 'next' -/
def Next (l : List UInt8) (w : World) (g : Nat) (a : Act) (wr : World) : Prop := ∃ (q f : Nat) (acc : List W) (y : W) (v : Value), At l g v q a ∧ q ≤ l.length ∧ (l.drop q).length < f ∧ wordsF f (l.drop q) q acc = wordsL l ∧ acc.length ≤ q ∧ Box4 wr g y ∧ WRow wr (g + 1) v acc ∧ Below w.heap.size w wr
/-- at label 'ended' -/
def Ended (l : List UInt8) (w : World) (g : Nat) (a : Act) (wr : World) : Prop := ∃ (acc : List W) (v : Value), At l g v l.length a ∧ wordsL l = (some (acc ++ [⟨0, [], 0, l.length⟩]), 0) ∧ acc.length ≤ l.length ∧ WRow wr (g + 1) v acc ∧ g + 1 ≤ wr.heap.size ∧ Below w.heap.size w wr

set_option maxHeartbeats 4000000 in
theorem words_any (l : List UInt8) (hl : l.length ≤ 1000) (w : World) (hM : MarksAt w) :
    Calls Tryd.prog 21 #[.string (str l)] w fun e w' => WordsRet w (wordsL l) e w' := by
  have hlen : ¬ (1000 : Int) < (l.length : Int) := by omega
  obtain ⟨g, hg⟩ : ∃ g, g = w.heap.size := ⟨_, rfl⟩
  replace hg := Lib.hid hg
  replace hM := Lib.hid hM
  replace hl := Lib.hid hl
  go_enter Tryd.func21, Tryd.ntmps21
  go_wp2
  refine wp_scope_two (Next l w g) (Ended l w g) (fun a _ => 1 + l.length - (intOf (a.tmps.getD 7 undef)).toNat) rfl rfl ?pass0 ?pass1 ?first
  case first =>
    intro hnext
    replace hnext := Lib.hid hnext
    go_wp2
    go_step3
    rename_i hK
    have hg2 := hg.out
    subst hg2
    refine hK _ _ (hnext.out _ _ ?_)
    exact ⟨0, l.length + 1, [], zeroW, .slice none 0 0, ⟨rfl, rfl, rfl, rfl, rfl, rfl, rfl, rfl, rfl, rfl⟩, Nat.zero_le _, by simp, rfl, Nat.le_refl _, heap_alloc_new w _, WRow.nil _ _, by go_grown⟩
  case pass1 =>
    rintro a wr ⟨acc, v, hat, hws, hal, hrow, hgs, hbel⟩
    obtain ⟨u, ha⟩ := hat.form
    clear hat
    dsimp only at ha
    subst ha
    have hal2 : acc.length < 1000000 := by have := hl.out; omega
    have hgw : w.heap.size ≤ g := by rw [hg.out]; exact Nat.le_refl _
    replace hws := Lib.hid hws; replace hal := Lib.hid hal; replace hrow := Lib.hid hrow; replace hgs := Lib.hid hgs; replace hbel := Lib.hid hbel; replace hal2 := Lib.hid hal2; replace hgw := Lib.hid hgw
    go_wp2_with (at_builtin; refine wpList_append_word rfl _ _ rfl (g + 1) _ acc rfl (hrow.out.alloc _) _ _ ⟨0, [], 0, l.length⟩ rfl (new_word wr ⟨0, [], 0, l.length⟩ _) hal2.out ?hb ?_; (case hb => have := hgs.out; simp; omega); intro v2 w2 hrow2 hgrow2; replace hrow2 := Lib.hid hrow2; replace hgrow2 := Lib.hid hgrow2)
    go_outline
    refine bodyPost_ret (v := .tuple #[v2, .int .i64 0, .int .i64 0]) (by simp [results, Tryd.results21, go_sem]) rfl ?_
    refine ⟨(hbel.out.alloc hbel.out.size _).grown hgrow2.out (by have := hbel.out.size; simp; omega) (fun k hk => by have := (hrow.out.lt k hk).1; have := hgw.out; omega), ?_⟩
    rw [hws.out]
    exact ⟨v2, rfl, by rw [← hg.out]; exact hrow2.out, by have := hal.out; have := hl.out; simp; omega⟩
  case pass0 =>
    rintro a wr ⟨q0, f, acc, y, v, hat, hq, hf, hws, hal, hbox, hrow, hbel⟩
    obtain ⟨u, ha⟩ := hat.form
    clear hat
    dsimp only at ha
    subst ha
    obtain ⟨L, hL⟩ : ∃ L, L = l.length := ⟨_, rfl⟩
    have hL2 := Lib.hid hL
    have hsz : (str l).size = L := by rw [str_size, hL]
    clear hL hlen
    obtain ⟨rs, hrs⟩ : ∃ x, x = wordsL l := ⟨_, rfl⟩
    rw [← hrs] at hws
    replace hrs := Lib.hid hrs; replace hbox := Lib.hid hbox; replace hrow := Lib.hid hrow; replace hbel := Lib.hid hbel
    go_upto_block 0 with fail
    go_cut [7] from 12 to 24 (fun s7 wx => ∃ q f : Nat, s7 = .int .i64 (q : Int) ∧ q0 ≤ q ∧ q ≤ L ∧ (l.drop q).length < f ∧ wordsF f (l.drop q) q acc = rs ∧ (q < L → ∃ c, l[q]? = some c ∧ blankB c = false) ∧ wx = wr)
    case first =>
      replace hal := Lib.hid hal
      go_wp2_with fail
      go_loopg [7] (L - q0) (fun gn s7 wx => ∃ q f : Nat, s7 = .int .i64 (q : Int) ∧ q0 ≤ q ∧ q + gn = L ∧ (l.drop q).length < f ∧ wordsF f (l.drop q) q acc = rs ∧ wx = wr)
      case atStart => exact ⟨q0, f, rfl, Nat.le_refl _, by have := hL2.out; omega, hf, hws, rfl⟩
      case round =>
        obtain ⟨q, f, rfl, hq1, hq2, hf, hws, rfl⟩ := hrel
        replace hq := Lib.hid hq
        by_cases hk : gk = 0
        · subst hk
          obtain rfl : q = L := by omega
          have hlt : ¬ ((q : Int) < (q : Int)) := by omega
          replace hws := Lib.hid hws; replace hf := Lib.hid hf
          clear hq2
          replace hq1 := Lib.hid hq1
          go_wp2
          go_meet
          exact ⟨q, f, rfl, hq1.out, Nat.le_refl _, hf.out, hws.out, fun h => absurd h (by omega), rfl⟩
        · obtain ⟨K, rfl⟩ : ∃ K : Nat, gk = K + 1 := ⟨gk - 1, by omega⟩
          have hqL : q < L := by omega
          obtain ⟨c, hc⟩ : ∃ c, l[q]? = some c := ⟨_, List.getElem?_eq_getElem (show q < l.length by have := hL2.out; omega)⟩
          have hd := drop_at l q c hc
          have hg3 := at_str l q c hc
          have i0 : (0 : Int) ≤ (q : Int) := by omega
          have i1 : (q : Int) < (L : Int) := by omega
          have i3 : IntKind.i64.wrap ((q : Int) + 1) = (q : Int) + 1 := by have := hl.out; have := hL2.out; rw [IntKind.wrap_i64]; omega
          have ci := index_any c
          replace hc := Lib.hid hc
          clear hk
          by_cases hbl : blankB c = true
          · have hge := blank_yes c hbl
            obtain ⟨B, hB⟩ : ∃ B, B = blankI c := ⟨_, rfl⟩
            rw [← hB] at hge
            simp only [← hB] at ci
            obtain ⟨f, rfl⟩ : ∃ k, f = k + 1 := ⟨f - 1, by omega⟩
            rw [hd, wordsF, if_pos hbl] at hws
            rw [hd] at hf
            have hf2 : (l.drop (q + 1)).length < f := by simp only [List.length_cons] at hf; omega
            clear hd hf hB hbl
            replace hws := Lib.hid hws; replace hf2 := Lib.hid hf2; replace ci := Lib.hid ci; replace hq1 := Lib.hid hq1; replace hq2 := Lib.hid hq2; replace hqL := Lib.hid hqL
            go_wp2_with (go_at_call 47; (with_reducible refine (ci.out _).mono ?_); rintro e w' ⟨rfl, rfl⟩)
            go_roundg K
            case measure => omega
            case rel => exact ⟨q + 1, f, by go_num, by have := hq1.out; omega, by have := hq2.out; omega, hf2.out, hws.out, rfl⟩
          · rw [Bool.not_eq_true] at hbl
            have hb1 := blank_no c hbl
            simp only [hb1] at ci
            clear hd hb1
            replace hbl := Lib.hid hbl
            replace hws := Lib.hid hws; replace hf := Lib.hid hf; replace ci := Lib.hid ci; replace hq1 := Lib.hid hq1; replace hq2 := Lib.hid hq2; replace hqL := Lib.hid hqL
            go_wp2_with (go_at_call 47; (with_reducible refine (ci.out _).mono ?_); rintro e w' ⟨rfl, rfl⟩)
            go_meet
            exact ⟨q, f, rfl, hq1.out, by have := hqL.out; omega, hf.out, hws.out, fun _ => ⟨c, hc.out, hbl.out⟩, rfl⟩
    case rest =>
      obtain ⟨q, f, rfl, hq1, hq2, hf, hws, hch, rfl⟩ := hcut
      have hgw : w.heap.size ≤ g := by rw [hg.out]; exact Nat.le_refl _
      replace hgw := Lib.hid hgw
      by_cases hqL : q = L
      · subst hqL
        have hd : l.drop q = [] := List.drop_eq_nil_of_le (by have := hL2.out; omega)
        obtain ⟨f, rfl⟩ : ∃ k, f = k + 1 := ⟨f - 1, by omega⟩
        rw [hd, wordsF] at hws
        replace hws := Lib.hid hws; replace hal := Lib.hid hal; replace hq := Lib.hid hq; replace hq1 := Lib.hid hq1
        clear hd hf hch hq2
        go_wp2
        go_step3
        refine Or.inr ⟨rfl, acc, v, ?_, ?_, ?_, hrow.out, ?_, hbel.out⟩
        · rw [← hL2.out]
          exact ⟨rfl, rfl, rfl, rfl, rfl, rfl, rfl, rfl, rfl, rfl⟩
        · rw [← hrs.out, ← hws.out, ← hL2.out]
        · have := hal.out; have := hq.out; omega
        · have := block_lt hbox.out; omega
      · have hlt : q < L := by omega
        obtain ⟨c, hc, hbl⟩ := hch hlt
        have hd := drop_at l q c hc
        have hg3 := at_str l q c hc
        have i0 : (0 : Int) ≤ (q : Int) := by omega
        have i1 : (q : Int) < (L : Int) := by omega
        have i2 : ((q : Int) == (L : Int)) = false := by simp; omega
        have i4 : decide (q = L) = false := by simp; omega
        have i5 : ¬ (q : Int) = (L : Int) := by omega
        obtain ⟨f, rfl⟩ : ∃ k, f = k + 1 := ⟨f - 1, by omega⟩
        obtain ⟨r, hr⟩ : ∃ r, r = wordAt (l.drop q) q := ⟨_, rfl⟩
        rw [hd, wordsF, if_neg (by rw [hbl]; decide), ← hd, ← hr] at hws
        rw [hd] at hr
        have hlen2 := fun x k (h : wordAt (l.drop q) q = some (x, k)) => wordAt_len (l.drop q) q x k h
        rw [hd, ← hr] at hlen2
        have cl := letter_any c
        have cd := digit_any c
        have hML := hM.out.keep hbel.out
        have cn : ∀ w', Calls Tryd.prog 49 #[.string (str l), .int .i64 (q : Int)] w' fun e w2 => e = .returned (.tuple #[wv ⟨1, (l.drop q).take (nameN (l.drop q)), 0, q⟩, .int .i64 ((q + nameN (l.drop q) : Nat) : Int)]) ∧ Below w'.heap.size w' w2 := fun w' => name_any l q (by have := hL2.out; omega) (by have := hl.out; omega) w'
        have cnum := fun w' => number_any l q (by have := hL2.out; omega) (by have := hl.out; omega) w'
        have ctx := fun w' => text_any l q (by have := hL2.out; omega) (by have := hl.out; omega) w'
        have cmk := fun w' hM' => mark_any l q (by have := hL2.out; omega) (by have := hl.out; omega) w' hM'
        have hdl : l.drop (q + 1) = (l.drop q).drop 1 := by rw [List.drop_drop, Nat.add_comm]
        replace hc := Lib.hid hc; replace hML := Lib.hid hML; replace hws := Lib.hid hws; replace hal := Lib.hid hal; replace hq := Lib.hid hq; replace hq1 := Lib.hid hq1; replace hf := Lib.hid hf; replace hlt := Lib.hid hlt; replace hlen2 := Lib.hid hlen2
        clear hch hqL hq2
        have hr2 := Lib.hid hr
        rw [wordAt] at hr
        simp only [hd] at cn cnum ctx cmk
        clear hdl
        replace hd := Lib.hid hd
        replace hr := Lib.hid hr
        obtain ⟨Y, hY⟩ : ∃ Y, Y = wordOf r := ⟨_, rfl⟩
        obtain ⟨E, hE⟩ : ∃ E, E = endOf q r := ⟨_, rfl⟩
        replace hY := Lib.hid hY; replace hE := Lib.hid hE
        go_upto_block 2 with fail
        go_cut [8] from 29 to 67 (fun s8 wx => s8 = .int .i64 E ∧ Box4 wx g Y ∧ WRow wx (g + 1) v acc ∧ Below w.heap.size w wx)
        case first =>
          by_cases h1 : letB c = true
          · rw [h1] at cl
            have hr3 := hr.out
            rw [if_pos h1] at hr3
            replace cl := Lib.hid cl; replace cd := Lib.hid cd
            clear h1
            have ct : ∀ w', Calls Tryd.prog 49 #[.string (str l), .int .i64 (q : Int)] w' fun e w2 => e = .returned (.tuple #[.agg #[.int .i64 (Y.kind : Int), .string (str Y.s), .int .i64 (Y.n : Int), .int .i64 (Y.pos : Int)], .int .i64 E]) ∧ Below w'.heap.size w' w2 := fun w' => by
              have := cn w'
              rw [hY.out, hE.out, hr3]
              exact this
            replace ct := Lib.hid ct; replace hr3 := Lib.hid hr3
            clear cn cnum ctx cmk
            go_wp2_with (first
              | (go_at_call 48; (with_reducible refine (cl.out _).mono ?_); rintro e w' ⟨rfl, rfl⟩)
              | (go_at_call 50; (with_reducible refine (cd.out _).mono ?_); rintro e w' ⟨rfl, rfl⟩)
              | (go_at_call 49; (with_reducible refine (ct.out _).mono ?_); rintro e w2 ⟨rfl, b2⟩; have hb2 := hbox.out.below b2; have z0 := hb2.cell 0; have z1 := hb2.cell 1; have z2 := hb2.cell 2; have z3 := hb2.cell 3; have f0 := hb2.free 0; have f1 := hb2.free 1; have f2 := hb2.free 2; have f3 := hb2.free 3; replace hb2 := Lib.hid hb2; have hrow2 := Lib.hid (hrow.out.below b2); have hbel2 := Lib.hid (belowCont hbel.out b2); clear b2))
            go_meet
            exact ⟨rfl, hb2.out.set Y, hrow2.out.set4 (Nat.lt_succ_self g), set4_below hbel2.out hgw.out _ _ _ _⟩
          · have h1f : letB c = false := by simpa using h1
            rw [h1f] at cl
            have hr3 := hr.out
            rw [if_neg h1] at hr3
            by_cases h2 : digB c = true
            · rw [h2] at cd
              rw [if_pos h2] at hr3
              replace cl := Lib.hid cl; replace cd := Lib.hid cd
              clear h1 h1f h2
              have ct : ∀ w', Calls Tryd.prog 51 #[.string (str l), .int .i64 (q : Int)] w' fun e w2 => e = .returned (.tuple #[.agg #[.int .i64 (Y.kind : Int), .string (str Y.s), .int .i64 (Y.n : Int), .int .i64 (Y.pos : Int)], .int .i64 E]) ∧ Below w'.heap.size w' w2 := fun w' => by
                have := cnum w'
                rw [numV_trial, ← hr3] at this
                rw [hY.out, hE.out]
                exact this
              replace ct := Lib.hid ct; replace hr3 := Lib.hid hr3
              clear cn cnum ctx cmk
              go_wp2_with (first
                | (go_at_call 48; (with_reducible refine (cl.out _).mono ?_); rintro e w' ⟨rfl, rfl⟩)
                | (go_at_call 50; (with_reducible refine (cd.out _).mono ?_); rintro e w' ⟨rfl, rfl⟩)
                | (go_at_call 51; (with_reducible refine (ct.out _).mono ?_); rintro e w2 ⟨rfl, b2⟩; have hb2 := hbox.out.below b2; have z0 := hb2.cell 0; have z1 := hb2.cell 1; have z2 := hb2.cell 2; have z3 := hb2.cell 3; have f0 := hb2.free 0; have f1 := hb2.free 1; have f2 := hb2.free 2; have f3 := hb2.free 3; replace hb2 := Lib.hid hb2; have hrow2 := Lib.hid (hrow.out.below b2); have hbel2 := Lib.hid (belowCont hbel.out b2); clear b2))
              go_meet
              exact ⟨rfl, hb2.out.set Y, hrow2.out.set4 (Nat.lt_succ_self g), set4_below hbel2.out hgw.out _ _ _ _⟩
            · have h2f : digB c = false := by simpa using h2
              rw [h2f] at cd
              rw [if_neg h2] at hr3
              by_cases h3 : c.toNat = 34
              · rw [if_pos h3] at hr3
                have q34 : ((c.toNat : Int) == 34) = true := by simp; omega
                replace cl := Lib.hid cl; replace cd := Lib.hid cd; replace h3 := Lib.hid h3
                clear h1 h1f h2 h2f
                have ct : ∀ w', Calls Tryd.prog 52 #[.string (str l), .int .i64 (q : Int)] w' fun e w2 => e = .returned (.tuple #[.agg #[.int .i64 (Y.kind : Int), .string (str Y.s), .int .i64 (Y.n : Int), .int .i64 (Y.pos : Int)], .int .i64 E]) ∧ Below w'.heap.size w' w2 := fun w' => by
                  have := ctx w'
                  rw [textV_trial, ← hr3] at this
                  rw [hY.out, hE.out]
                  exact this
                replace ct := Lib.hid ct; replace hr3 := Lib.hid hr3
                clear cn cnum ctx cmk
                go_wp2_with (first
                  | (go_at_call 48; (with_reducible refine (cl.out _).mono ?_); rintro e w' ⟨rfl, rfl⟩)
                  | (go_at_call 50; (with_reducible refine (cd.out _).mono ?_); rintro e w' ⟨rfl, rfl⟩)
                  | (go_at_call 52; (with_reducible refine (ct.out _).mono ?_); rintro e w2 ⟨rfl, b2⟩; have hb2 := hbox.out.below b2; have z0 := hb2.cell 0; have z1 := hb2.cell 1; have z2 := hb2.cell 2; have z3 := hb2.cell 3; have f0 := hb2.free 0; have f1 := hb2.free 1; have f2 := hb2.free 2; have f3 := hb2.free 3; replace hb2 := Lib.hid hb2; have hrow2 := Lib.hid (hrow.out.below b2); have hbel2 := Lib.hid (belowCont hbel.out b2); clear b2))
                go_meet
                exact ⟨rfl, hb2.out.set Y, hrow2.out.set4 (Nat.lt_succ_self g), set4_below hbel2.out hgw.out _ _ _ _⟩
              · rw [if_neg h3] at hr3
                have q34 : ((c.toNat : Int) == 34) = false := by simp; omega
                replace cl := Lib.hid cl; replace cd := Lib.hid cd; replace h3 := Lib.hid h3
                clear h1 h1f h2 h2f
                have ct : ∀ w', MarksAt w' → Calls Tryd.prog 53 #[.string (str l), .int .i64 (q : Int)] w' fun e w2 => e = .returned (.tuple #[.agg #[.int .i64 (Y.kind : Int), .string (str Y.s), .int .i64 (Y.n : Int), .int .i64 (Y.pos : Int)], .int .i64 E]) ∧ Below w'.heap.size w' w2 := fun w' hM' => by
                  have := cmk w' hM'
                  rw [markV_trial, ← hr3] at this
                  rw [hY.out, hE.out]
                  exact this
                replace ct := Lib.hid ct; replace hr3 := Lib.hid hr3
                clear cn cnum ctx cmk
                go_wp2_with (first
                  | (go_at_call 48; (with_reducible refine (cl.out _).mono ?_); rintro e w' ⟨rfl, rfl⟩)
                  | (go_at_call 50; (with_reducible refine (cd.out _).mono ?_); rintro e w' ⟨rfl, rfl⟩)
                  | (go_at_call 53; (with_reducible refine (ct.out _ hML.out).mono ?_); rintro e w2 ⟨rfl, b2⟩; have hb2 := hbox.out.below b2; have z0 := hb2.cell 0; have z1 := hb2.cell 1; have z2 := hb2.cell 2; have z3 := hb2.cell 3; have f0 := hb2.free 0; have f1 := hb2.free 1; have f2 := hb2.free 2; have f3 := hb2.free 3; replace hb2 := Lib.hid hb2; have hrow2 := Lib.hid (hrow.out.below b2); have hbel2 := Lib.hid (belowCont hbel.out b2); clear b2))
                go_meet
                exact ⟨rfl, hb2.out.set Y, hrow2.out.set4 (Nat.lt_succ_self g), set4_below hbel2.out hgw.out _ _ _ _⟩
        case rest =>
          obtain ⟨rfl, hb4, hrow4, hbel4⟩ := hcut
          replace hrow4 := Lib.hid hrow4; replace hbel4 := Lib.hid hbel4
          clear cn cnum ctx cmk cl cd hrow hbel hbox hML hr
          have hr3 := hr2.out
          have hws3 := hws.out
          cases hrc : r with
          | none =>
            have hE2 : E = -1 := by rw [hE.out, hrc]; rfl
            subst hE2
            rw [hrc] at hws3
            replace hws3 := Lib.hid hws3; replace hb4 := Lib.hid hb4
            clear hrc hr3
            go_wp2
            refine bodyPost_ret (v := .tuple #[.slice none 0 0, .int .i64 (q : Int), .int .i64 320]) (by simp [results, Tryd.results21, go_sem]) rfl ?_
            refine ⟨hbel4.out, ?_⟩
            rw [← hrs.out, ← hws3.out]
          | some xk =>
            obtain ⟨x, k⟩ := xk
            have hk2 := hlen2.out x k (by rw [hrc])
            have hYx : Y = x := by rw [hY.out, hrc]; rfl
            obtain ⟨n, hn⟩ : ∃ n, n = q + k := ⟨_, rfl⟩
            have hE2 : E = (n : Int) := by rw [hE.out, hrc, hn]; rfl
            subst hE2
            subst hYx
            rw [hrc] at hws3
            simp only [List.drop_drop] at hws3
            rw [← hn] at hws3
            have hnL : n ≤ L := by have h6 := hk2.2; have h7 := hL2.out; have h8 := hlt.out; rw [← hd.out, List.length_drop] at h6; omega
            have hfn : (l.drop n).length < f := by have h6 := hf.out; have h8 := hk2.1; have h7 := hL2.out; have h9 := hlt.out; rw [List.length_drop] at h6 ⊢; omega
            have n0 : ((n : Int) == -1) = false := by first | (simp; done) | (simp; omega)
            have n1 : ¬ (n : Int) = -1 := by omega
            have hal2 : acc.length < 1000000 := by have := hal.out; have := hq.out; have := hl.out; omega
            have z0 := hb4.cell 0; have z1 := hb4.cell 1; have z2 := hb4.cell 2; have z3 := hb4.cell 3
            replace hws3 := Lib.hid hws3; replace hnL := Lib.hid hnL; replace hfn := Lib.hid hfn; replace hal2 := Lib.hid hal2; replace hn := Lib.hid hn; replace hk2 := Lib.hid hk2
            replace hb4 := Lib.hid hb4
            clear hrc hr3
            go_wp2_with (at_builtin; refine wpList_append_word rfl _ _ rfl (g + 1) _ acc rfl (hrow4.out.alloc _) _ _ Y rfl (new_word _ Y _) hal2.out ?hb ?_; (case hb => have := block_lt hb4.out; simp; omega); intro v2 w2 hrow2 hgrow2; replace hrow2 := Lib.hid hrow2; replace hgrow2 := Lib.hid hgrow2)
            go_step3
            refine Or.inl ⟨rfl, ⟨n, f, acc ++ [Y], Y, v2, ?_, ?_, hfn.out, ?_, ?_, ?_, hrow2.out, ?_⟩, ?_⟩
            · exact ⟨rfl, rfl, rfl, rfl, rfl, rfl, rfl, rfl, rfl, rfl⟩
            · rw [← hL2.out]; exact hnL.out
            · rw [← hrs.out]; exact hws3.out
            · have := hal.out; have := hq1.out; have := hn.out; have := hk2.out; rw [List.length_append]; simp; omega
            · exact (hgrow2.out.block _ (by have := block_lt hb4.out; simp; omega) (by intro e; have := (hrow4.out.lt _ e.symm).1; omega)).trans (hb4.out.below ((Below.refl _ _).alloc (Nat.le_refl _) _))
            · exact (hbel4.out.alloc hbel4.out.size _).grown hgrow2.out (by have := hbel4.out.size; simp; omega) (fun b hb => by have := (hrow4.out.lt b hb).1; have := hgw.out; omega)
            · have := hn.out; have := hk2.out; have := hq1.out; have := hnL.out; have := hL2.out
              simp [intOf]
              omega
end Go.Proofs.YtgbkpkioijbgoaaDoor.lex
