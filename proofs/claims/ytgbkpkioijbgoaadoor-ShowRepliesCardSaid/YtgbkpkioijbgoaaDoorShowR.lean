/- Values in parentheses (show.row). The table of powers of ten is a premise; values as lodestonelaw23.Near gives them. -/
import Derived.Test.YtgbkpkioijbgoaaDoorShowI
namespace Go.Proofs.YtgbkpkioijbgoaaDoor.show
open Go.RowKit
attribute [local go_sem ↓] Go.wp_at_zero Go.wp_at_succ
set_option linter.unusedVariables false
set_option linter.unusedSimpArgs false
set_option maxRecDepth 100000

/-- a value -/
structure V3 where
  k : Int
  n : Int
  s : ByteArray
def V3.cells (x : V3) : List Value := [.int .i64 x.k, .int .i64 x.n, .string x.s]
theorem V3.cells_len (x : V3) : x.cells.length = 3 := rfl
def V3.v (x : V3) : Value := .agg #[.int .i64 x.k, .int .i64 x.n, .string x.s]
def V3.text (x : V3) : ByteArray := valT x.k x.n x.s
def V3.near (x : V3) : Prop := NV x.k x.n x.s
theorem esc_len (l : List UInt8) : (lex.escL l).length ≤ 2 * l.length := by
  unfold lex.escL
  induction l with
  | nil => simp
  | cons c l ih =>
    rw [List.flatMap_cons, List.length_append, List.length_cons]
    have : (if c.toNat = 34 ∨ c.toNat = 92 then [92, c] else [c] : List UInt8).length ≤ 2 := by split <;> simp
    omega
theorem text_size (x : V3) (h : x.near) : x.text.size ≤ 130 := by
  unfold V3.text valT
  split
  · split <;> decide
  · split
    · have := numT_size x.n h.hn; omega
    · split
      · rename_i h3
        have h1 := h.hs h3
        have h2 := esc_len x.s.data.toList
        have h4 : x.s.data.toList.length = x.s.size := Array.length_toList
        rw [str_size]
        simp [lex.lexText]
        simp at h2
        omega
      · decide
/-- values in parentheses -/
def rowT (l : List V3) : ByteArray := (⟨#[40]⟩ : ByteArray) ++ joinS (l.map V3.text) ⟨#[44, 32]⟩ ++ ⟨#[41]⟩
theorem rowT_size (l : List V3) (hn : l.length ≤ 20) (hl : ∀ x ∈ l, x.near) : (joinS (l.map V3.text) ⟨#[44, 32]⟩).size ≤ 5000 := by
  have h := joinS_size (l.map V3.text) ⟨#[44, 32]⟩ 130 (fun y hy => by
    obtain ⟨z, hz, rfl⟩ := List.mem_map.mp hy
    exact text_size z (hl z hz))
  have e : (⟨#[44, 32]⟩ : ByteArray).size = 2 := rfl
  rw [e, List.length_map] at h
  omega
set_option maxHeartbeats 4000000 in
theorem row_any (v : Value) (l : List V3) (w : World) (hT : Tab w) (h : Sl w v l.length (l.flatMap V3.cells)) (hn : l.length ≤ 20) (hl : ∀ x ∈ l, x.near) :
    Calls Tryd.prog 45 #[v] w fun e w' => e = .returned (.string (rowT l)) ∧ Below w.heap.size w w' := by
  have hj := rowT_size l hn hl
  have k1 : ∀ x, x ∈ l → ∀ W, Below w.heap.size w W → Calls Tryd.prog 81 #[.agg #[.int .i64 x.k, .int .i64 x.n, .string x.s]] W fun e w' => e = .returned (.string x.text) ∧ Below W.heap.size W w' := fun x hx W hb =>
    sval_any x.k x.n x.s (hl x hx).hn (fun e => by have := (hl x hx).hs e; omega) W (hT.keep hb)
  have k2 : ∀ (W : World) (v : Value), SRow W 0 v (l.map V3.text) → Calls Tryd.prog 46 #[v, .string ⟨#[44, 32]⟩] W fun e w' => e = .returned (.string (joinS (l.map V3.text) ⟨#[44, 32]⟩)) ∧ Below W.heap.size W w' :=
    fun W v hr => joinS_any _ _ (by omega) (by simp; omega) W v hr
  obtain ⟨R, hR⟩ : ∃ R, R = joinS (l.map V3.text) ⟨#[44, 32]⟩ := ⟨_, rfl⟩
  have hI : rowT l = (⟨#[40]⟩ : ByteArray) ++ R ++ ⟨#[41]⟩ := by rw [hR]; rfl
  rw [← hR] at k2 hj
  rw [hI]
  obtain ⟨a, cp, rfl, hmax, h⟩ := h
  obtain ⟨n, hln⟩ : ∃ n, n = l.length := ⟨_, rfl⟩
  rw [← hln] at hn hmax h ⊢
  have hp0 := Lib.hid ((Hp.none_ w []).rowNil 9 1)
  replace h := Lib.hid h; replace hln := Lib.hid hln; replace k1 := Lib.hid k1; replace k2 := Lib.hid k2; replace hj := Lib.hid hj
  clear hT hl hR hI
  go_enter Tryd.func45, Tryd.ntmps45
  go_wp2
  go_loopw [3, 8] (fun s3 s8 wr => ∃ (i : Nat) (ad : Option Addr) (cp : Nat), s8 = .int .i64 (i : Int) ∧ i ≤ n ∧ s3 = .slice ad i cp ∧ Hp w [] [.row 9 1 (.slice ad i cp) i (((l.take i).map V3.text).map Value.string)] wr) (fun _ s8 _ => n - (intOf s8).toNat)
  case atStart => exact ⟨0, _, _, rfl, by omega, rfl, by simpa using hp0.out⟩
  case round =>
    clear hp0
    obtain ⟨i, ad, cp2, rfl, hi, rfl, hp⟩ := hrel
    by_cases hlt : i < n
    · obtain ⟨b, o, rfl, hr⟩ := h.out.resolve_left (by omega)
      obtain ⟨x, hx⟩ : ∃ x, l[i]? = some x := ⟨_, List.getElem?_eq_getElem (by have := hln.out; omega)⟩
      have hf : ((l.take (i + 1)).map V3.text).map Value.string = ((l.take i).map V3.text).map Value.string ++ [.string x.text] := by rw [List.take_add_one, hx]; simp
      have hcx := k1.out x (List.mem_of_getElem? hx)
      have d0 : wr.cell? ⟨b, o + i * 3, none⟩ = some (.int .i64 x.k) := (hp.bel.cell hr.1).trans (hr.elem0 V3.cells_len hx rfl)
      have d1 : wr.cell? ⟨b, o + i * 3 + 1, none⟩ = some (.int .i64 x.n) := (hp.bel.cell hr.1).trans (hr.elem V3.cells_len hx rfl)
      have d2 : wr.cell? ⟨b, o + i * 3 + 2, none⟩ = some (.string x.s) := (hp.bel.cell hr.1).trans (hr.elem V3.cells_len hx rfl)
      have e1 : (0 : Int) ≤ (i : Int) := by omega
      have e2 : (i : Int) < (n : Int) := by omega
      have hi9 : i < 100000000 := by omega
      obtain ⟨xk, xn, xs⟩ := x
      obtain ⟨T, hT⟩ : ∃ T, T = V3.text ⟨xk, xn, xs⟩ := ⟨_, rfl⟩
      rw [← hT] at hcx hf
      simp only at hcx d0 d1 d2
      obtain ⟨M, hM⟩ : ∃ M, M = ((l.take i).map V3.text).map Value.string := ⟨_, rfl⟩
      rw [← hM] at hf hp
      have hp2 := Lib.hid (hp.alloc #[.int .i64 xk, .int .i64 xn, .string xs] 53)
      replace hf := Lib.hid hf; replace hcx := Lib.hid hcx; replace hi9 := Lib.hid hi9
      clear hx hr hM hp hT
      go_wp2_with (first
        | (go_at_call 81; have c0 := hp2.out.cell (i := 0) rfl 0; (with_reducible refine (hcx.out _ hp2.out.bel).mono ?_); rintro e w1 ⟨rfl, b1⟩; replace hp2 := Lib.hid (hp2.out.below b1); clear b1)
        | (at_builtin; go_loud (refine wpList_append_hp rfl _ _ rfl Tryd.underlying45 strInfo rfl (by decide) (by decide) (hp2.out.alloc_ (.cells #[.string T] 9)) 1 rfl rfl _ _ [.string T] rfl rfl (block_cells (heap_alloc_new _ _)) (by intro u hu; simp at hu; rcases hu with rfl; rfl) hi9.out ?_; intro v5 w5 hp5 hv5; replace hp5 := Lib.hid hp5; obtain ⟨b5, cp5, rfl⟩ := hv5)))
      go_roundw
      case rel => exact ⟨i + 1, _, _, by go_num, by omega, rfl, by rw [hf.out]; exact hp5.out.drop 0⟩
      case measure => simp [intOf]; omega
    · obtain rfl : n = i := by omega
      rw [List.take_of_length_le (by rw [← hln.out]; exact Nat.le_refl _)] at hp
      have hrow := hp.row (i := 0) rfl
      have hrow2 : SRow wr 0 (.slice ad n cp2) (l.map V3.text) := by unfold SRow; simpa [← hln.out] using hrow
      have kk := Lib.hid (k2.out _ _ hrow2)
      replace hp := Lib.hid hp
      clear hrow hrow2
      have hj1 := hj.out
      go_wp2_with (go_at_call 46; (with_reducible refine (kk.out).mono ?_); rintro e w1 ⟨rfl, b1⟩; replace hp := Lib.hid (hp.out.below b1); clear b1)
      go_ret
      exact ⟨rfl, hp.out.bel⟩
end Go.Proofs.YtgbkpkioijbgoaaDoor.show
