/- Names as bytes (Put). No condition but the names' cells and lengths. -/
import Derived.Test.YtdgpalileloekaaNames2
import Derived.Test.YtdgpalileloekaaHpBu
namespace Go.Proofs.Ytdgpalileloekaa.names
open Go.RowKit
open code (numL textL)
attribute [local go_sem ↓] Go.wp_at_zero Go.wp_at_succ
attribute [local go_sem] str_size str_bl
set_option linter.unusedVariables false
set_option maxRecDepth 100000

def putN (l : List Nm) : List UInt8 := numL l.length ++ l.flatMap textL
def putTo (L : Nat → List Nm) : Nat → List UInt8
  | 0 => []
  | k + 1 => putTo L k ++ putN (L k)
def putB (L : Nat → List Nm) : List UInt8 := putTo L 3
theorem flat_take1 {α : Type} (f : α → List UInt8) (l : List α) (k : Nat) (x : α) (h : l[k]? = some x) : (l.take (k + 1)).flatMap f = (l.take k).flatMap f ++ f x := by
  rw [List.take_add_one, h]; simp
/-- short names, few of each kind -/
def Few (L : Nat → List Nm) : Prop := ∀ k, k < 3 → (L k).length ≤ 64 ∧ ∀ x ∈ L k, x.length ≤ 20
set_option maxHeartbeats 4000000 in
theorem put_any (g : Nat) (V : Nat → Value) (L : Nat → List Nm) (w : World) (h : w.heap[g]? = some (.cells #[V 0, V 1, V 2] 101 (0, 0))) (hr : ∀ k, k < 3 → Sl w (V k) (L k).length (nmC (L k))) (hf : Few L) :
    Calls Try.prog 28 #[.pointer (some ⟨g, 0, none⟩)] w fun e w' => e = .returned (.string (str (putB L))) ∧ Below w.heap.size w w' := by
  have hlist : ∀ (W : World) (k : Nat), Below w.heap.size w W → k < 3 → Calls Try.prog 59 #[.pointer (some ⟨g, 0, none⟩), .int .i64 (k : Int)] W fun e w' => e = .returned (V k) ∧ w' = W := fun W k hb hk =>
    list_any g V W ((hb.block _ (block_lt h)).trans h) k hk
  have hp := Lib.hid ((Hp.none_ w []).bnew)
  have hPB : putB L = putTo L 3 := rfl
  obtain ⟨PB, hPB2⟩ : ∃ x, x = putB L := ⟨_, rfl⟩
  rw [← hPB2]
  have hfin : putTo L 3 = PB := by rw [hPB2, hPB]
  replace hlist := Lib.hid hlist; replace hr := Lib.hid hr; replace hf := Lib.hid hf; replace hfin := Lib.hid hfin
  clear h hPB hPB2
  go_enter Try.func28, Try.ntmps28
  go_wp2
  go_loopg [8] 3 (fun gf s8 wr => ∃ (k : Nat) (C : List UInt8), s8 = .int .i64 (k : Int) ∧ k + gf = 3 ∧ Hp w [] [bu w.heap.size C] wr ∧ C = putTo L k ∧ C.length ≤ k * 1930)
  case atStart => exact ⟨0, [], rfl, by omega, hp.out, rfl, by simp⟩
  case round =>
    clear hp
    obtain ⟨k, C, rfl, hkf, hp, hC, hCl⟩ := hrel
    replace hp := Lib.hid hp
    cases gk with
    | zero =>
      obtain rfl : k = 3 := by omega
      rw [hfin.out] at hC
      subst hC
      clear hkf hCl
      go_wp2_with (go_at_call 64; (with_reducible refine (hp.out.bstring (i := 0) rfl (Nat.le_refl _)).mono ?_); rintro e w1 ⟨rfl, h1⟩; replace h1 := Lib.hid h1)
      go_ret
      exact ⟨rfl, h1.out.bel⟩
    | succ f =>
      have hk3 : k < 3 := by omega
      have hki : (k : Int) < 3 := by omega
      obtain ⟨hn64, hx20⟩ := hf.out k hk3
      obtain ⟨ad, cp, hv, hmx, hc⟩ := hr.out k hk3
      have hlk := fun W hb => hlist.out W k hb hk3
      rw [hv] at hlk
      obtain ⟨l, hl⟩ : ∃ l, l = L k := ⟨_, rfl⟩
      rw [← hl] at hn64 hx20 hc hlk hmx
      have hnext : putTo L (k + 1) = C ++ putN l := by rw [hC, hl]; rfl
      obtain ⟨n, hln⟩ : ∃ n, n = l.length := ⟨_, rfl⟩
      rw [← hln] at hn64 hc hlk hmx
      have hnum : ∀ W, Calls Try.prog 62 #[.int .u64 (n : Int)] W fun e w' => e = .returned (.string (str (numL n))) ∧ Below W.heap.size W w' := fun W => code.num_any n (by omega) W
      have hwr : IntKind.u64.wrap (n : Int) = (n : Int) := IntWalk.u64_in _ (by omega)
      have hnl := code.numL_len64 n (by omega)
      have hb1 : C.length + (numL n).length ≤ 140737488355328 := by omega
      replace hb1 := Lib.hid hb1; replace hnum := Lib.hid hnum; replace hlk := Lib.hid hlk; replace hc := Lib.hid hc; replace hnext := Lib.hid hnext; replace hx20 := Lib.hid hx20; replace hln := Lib.hid hln; replace hkf := Lib.hid hkf
      clear hv hl hC
      go_wp2_with (first
        | (go_at_call 59; (with_reducible refine (hlk.out _ hp.out.bel).mono ?_); rintro e w1 ⟨rfl, rfl⟩)
        | (go_at_call 62; (with_reducible refine (hnum.out _).mono ?_); rintro e w2 ⟨rfl, b2⟩; replace hp := Lib.hid (hp.out.below b2); clear b2)
        | (go_at_call 61; (with_reducible refine (hp.out.write (i := 0) rfl _ hb1.out).mono ?_); rintro e w3 ⟨rfl, h1⟩; replace hp := Lib.hid h1; clear h1))
      go_loopg [21] n (fun gj s21 wr => ∃ (j : Nat) (D : List UInt8), s21 = .int .i64 (j : Int) ∧ j + gj = n ∧ Hp w [] [bu w.heap.size D] wr ∧ D = C ++ (numL n ++ (l.take j).flatMap textL) ∧ D.length ≤ k * 1930 + 10 + j * 30)
      case atStart => exact ⟨0, _, rfl, by omega, hp.out, by simp, by rw [List.length_append]; omega⟩
      case round =>
        clear hp
        obtain ⟨j, D, rfl, hjn, hp, hD, hDl⟩ := hrel
        replace hp := Lib.hid hp
        cases gk with
        | zero =>
          obtain rfl : j = n := by omega
          have hDn : D = putTo L (k + 1) := by
            rw [hnext.out, hD, List.take_of_length_le (by rw [← hln.out]; exact Nat.le_refl _)]
            unfold putN; rw [← hln.out]
          clear hD hjn
          replace hDn := Lib.hid hDn
          go_wp2_with fail
          go_roundg f
          case rel => exact ⟨k + 1, D, by go_num, by have := hkf.out; omega, hp.out, hDn.out, by omega⟩
          case measure => omega
        | succ g =>
          have hjlt : (j : Int) < (n : Int) := by omega
          have hj0 : (0 : Int) ≤ (j : Int) := by omega
          obtain ⟨b, o, rfl, hrw⟩ := hc.out.resolve_left (by omega)
          obtain ⟨x, hx⟩ : ∃ x, l[j]? = some x := ⟨_, List.getElem?_eq_getElem (by have := hln.out; omega)⟩
          have hxl := hx20.out x (List.mem_of_getElem? hx)
          have d0 : wr.cell? ⟨b, o + j, none⟩ = some (.string (str x)) := (hp.out.bel.cell hrw.1).trans (hrw.2 j _ (nmC_at l j x hx))
          have htx : ∀ W, Calls Try.prog 63 #[.string (str x)] W fun e w' => e = .returned (.string (str (textL x))) ∧ Below W.heap.size W w' := fun W => code.text_put x (by omega) W
          have htl := code.textL_len x (by omega)
          have hb2 : D.length + (textL x).length ≤ 140737488355328 := by omega
          have hD2 : D ++ textL x = C ++ (numL n ++ (l.take (j + 1)).flatMap textL) := by rw [flat_take1 textL l j x hx, hD]; simp
          have hl2 : (D ++ textL x).length ≤ k * 1930 + 10 + (j + 1) * 30 := by rw [List.length_append]; omega
          replace htx := Lib.hid htx; replace hb2 := Lib.hid hb2; replace hD2 := Lib.hid hD2; replace hl2 := Lib.hid hl2
          clear hx hrw hD hDl htl hxl
          go_wp2_with (first
            | (go_at_call 63; (with_reducible refine (htx.out _).mono ?_); rintro e w4 ⟨rfl, b2⟩; replace hp := Lib.hid (hp.out.below b2); clear b2)
            | (go_at_call 61; (with_reducible refine (hp.out.write (i := 0) rfl _ hb2.out).mono ?_); rintro e w5 ⟨rfl, h1⟩; replace hp := Lib.hid h1; clear h1))
          go_roundg g
          case rel => exact ⟨j + 1, _, by go_num, by omega, hp.out, hD2.out, hl2.out⟩
          case measure => omega
section
variable {w W : World} {X : List Nat} {rs : List Rs} {i g : Nat} {L : Nat → List Nm}
theorem put_hp (h : Hp w X rs W) (hi : rs[i]? = some (nmT g L)) (hf : Few L) :
    Calls Try.prog 28 #[.pointer (some ⟨g, 0, none⟩)] W fun e w' => e = .returned (.string (str (putB L))) ∧ Hp w X rs w' := by
  obtain ⟨V, h1, h2⟩ := hp_nm h hi
  exact (put_any g V L W h1 (fun k hk => Sl.ofRow (h2 k hk) (by have := (hf k hk).1; omega)) hf).mono fun e w' ⟨he, hb⟩ => ⟨he, h.below hb⟩
end
end Go.Proofs.Ytdgpalileloekaa.names
