/- The first anchor read back (package anchor). No condition. -/
import Derived.Test.YtdhboldmffiklabAnchor3
namespace Go.Proofs.Ytdhboldmffiklab.anchor
open Go.RowKit
open Go.Proofs.Ytdhboldmffiklab.code
attribute [local go_sem ↓] Go.wp_at_zero Go.wp_at_succ
attribute [local go_sem] str_size
set_option linter.unusedVariables false
set_option maxRecDepth 100000
attribute [local go_sem ↓] yielded_undef
theorem takeBool0 {w : World} {g : Nat} {l : List UInt8} (h : RdAt w g (0 :: l) 0) : Calls Try.prog 59 #[.pointer (some ⟨g, 0, none⟩)] w fun e w' => e = .returned (.bool false) ∧ RdAt w' g l 0 ∧ Keeps [g] w w' := by
  have t1 : takeNum 1 (0 :: l) = (0, l, 0) := by have := takeNum_numL 0 1 l (by omega) (by omega); rw [numL_0] at this; exact this
  have c1 : Calls Try.prog 57 #[.pointer (some ⟨g, 0, none⟩), .int .u64 1] w fun e w2 => e = .returned (.int .u64 0) ∧ RdAt w2 g l 0 ∧ Keeps [g] w w2 := by
    have := takeNum_any h 1 (by omega); rw [t1] at this; exact this
  clear h t1
  replace c1 := Lib.hid c1
  go_enter Try.func59, Try.ntmps59
  go_wp2_with (go_at_call 57; (with_reducible refine c1.out.mono ?_); rintro e w1 ⟨rfl, h1, k1⟩; replace h1 := Lib.hid h1)
  go_ret
  exact ⟨rfl, h1.out, k1⟩
def AnAt (w : World) (b : Nat) (cs : Array Value) : Prop := w.heap[b]? = some (.cells cs 27 (0, 0))
section
variable {w w' : World} {b : Nat} {cs : Array Value}
theorem AnAt.keep (h : AnAt w b cs) {X : List Nat} (k : Keeps X w w') (hg : b ∉ X) : AnAt w' b cs := (k.block _ (block_lt h) hg).trans h
theorem AnAt.cell (h : AnAt w b cs) (i : Nat) : w.cell? ⟨b, i, none⟩ = cs[i]? := cell_of_row _ _ i _ _ _ h
theorem AnAt.free (h : AnAt w b cs) (i : Nat) : w.frozen? ⟨b, i, none⟩ = false := by unfold AnAt at h; simp [World.frozen?, h]
structure GetAt (w wx : World) (b r : Nat) (cs : Array Value) (l : List UInt8) : Prop where
  an : AnAt wx b cs
  rd : RdAt wx r l 0
  ne : b ≠ r
  gb : w.heap.size ≤ b
  gr : w.heap.size ≤ r
  bel : Below w.heap.size w wx
  res : AnAt wx w.heap.size #[.int .u64 0, .int .u32 0, .bool false, .string ⟨#[]⟩, .int .i64 0, .string ⟨#[]⟩, .int .i64 0, .int .i64 0, .string ⟨#[]⟩]
  nb : w.heap.size ≠ b
  nr : w.heap.size ≠ r
theorem GetAt.step {w wx w2 : World} {b r : Nat} {cs : Array Value} {l l2 : List UInt8} (h : GetAt w wx b r cs l) (h2 : RdAt w2 r l2 0) (k : Keeps [r] wx w2) : GetAt w w2 b r cs l2 :=
  ⟨h.an.keep k (by simp [h.ne]), h2, h.ne, h.gb, h.gr, h.bel.trans (k.below h.bel.size (by intro x hx; simp at hx; subst hx; exact h.gr)), h.res.keep k (by simp [h.nr]), h.nb, h.nr⟩
theorem GetAt.set {w wx : World} {b r : Nat} {cs : Array Value} {l : List UInt8} (h : GetAt w wx b r cs l) (i : Nat) (v : Value) (cs' : Array Value) (e : cs.setIfInBounds i v = cs') : GetAt w (wx.setCell ⟨b, i, none⟩ v) b r cs' l := by
  subst e
  have k : Keeps [b] wx (wx.setCell ⟨b, i, none⟩ v) := (Keeps.refl [b] wx).setCell (p := ⟨b, i, none⟩) (Or.inl (by simp)) _
  refine ⟨?_, h.rd.keep k (by simp [h.ne.symm]), h.ne, h.gb, h.gr, h.bel.setCell (p := ⟨b, i, none⟩) h.gb _, h.res.keep k (by simp [h.nb]), h.nb, h.nr⟩
  have := h.an
  unfold AnAt at this ⊢
  simp [World.setCell, Array.getElem?_modify, this]
theorem get_results (tmps : Array Value) (W' : World) (g : Nat) (cs : Array Value) (h2 : tmps.getD 2 undef = .pointer (some ⟨g, 0, none⟩)) (h3 : tmps.getD 3 undef = .int .i64 0) (hg : W'.heap[g]? = some (.cells cs 27 (0, 0))) (hi : cs.size = 9) :
    (results Try.f10 tmps).run Try.prog W' = .ok (.tuple #[.agg cs, .int .i64 0]) W' := by
  have h2' : tmps[2]?.getD undef = .pointer (some ⟨g, 0, none⟩) := by simpa using h2
  have h3' : tmps[3]?.getD undef = .int .i64 0 := by simpa using h3
  have hs : (Try.prog.info? 27).map (·.size) = some cs.size := by rw [hi]; kernel_rfl
  simp [results, Try.results10, h2', h3', asAddr, run_loadVar_row W' g 27 27 cs (0, 0) _ hg Try.underlying27 rfl hs]
theorem get_first (w : World) : Calls Try.prog 10 #[.string (str (H0 ++ Z32))] w fun e w' => e = .returned (.tuple #[.agg #[.int .u64 0, .int .u32 0, .bool false, .string ⟨#[]⟩, .int .i64 (-1), .string ⟨#[]⟩, .int .i64 0, .int .i64 0, .string (str Z32)], .int .i64 0]) ∧ Below w.heap.size w w' := by
  obtain ⟨Z, hZ⟩ : ∃ z, z = Z32 := ⟨_, rfl⟩
  have hZl : Z.length = 32 := by rw [hZ, Z32_len]
  have k0 : ∀ wx, RdAt wx (w.heap.size + 1) (H0 ++ Z) 0 → AnAt wx w.heap.size #[.int .u64 0, .int .u32 0, .bool false, .string ⟨#[]⟩, .int .i64 0, .string ⟨#[]⟩, .int .i64 0, .int .i64 0, .string ⟨#[]⟩] → Below w.heap.size w wx → Calls Try.prog 55 #[.pointer (some ⟨w.heap.size + 1, 0, none⟩), .int .i64 4] wx fun e w2 => e = .returned (.string ⟨#[108, 111, 100, 101]⟩) ∧ GetAt w (w2.alloc (.cells #[.int .u64 0, .int .u32 0, .bool false, .string ⟨#[]⟩, .int .i64 0, .string ⟨#[]⟩, .int .i64 0, .int .i64 0, .string ⟨#[]⟩] 27)) w2.heap.size (w.heap.size + 1) #[.int .u64 0, .int .u32 0, .bool false, .string ⟨#[]⟩, .int .i64 0, .string ⟨#[]⟩, .int .i64 0, .int .i64 0, .string ⟨#[]⟩] (0 :: 0 :: 0 :: 0 :: 0 :: 0 :: 0 :: 0 :: 0 :: 0 :: 0 :: Z) := fun wx hr hq hb => (bytes_take hr 4 (by simp [H0])).mono (fun e w2 h2 => by
    obtain ⟨he, h3, k3⟩ := h2
    have l1 := block_lt h3
    have hb2 : Below w.heap.size w w2 := hb.trans (k3.below hb.size (by intro x hx; simp at hx; omega))
    have ba : Below w2.heap.size w2 (w2.alloc (.cells #[.int .u64 0, .int .u32 0, .bool false, .string ⟨#[]⟩, .int .i64 0, .string ⟨#[]⟩, .int .i64 0, .int .i64 0, .string ⟨#[]⟩] 27)) := (Below.refl _ _).alloc (Nat.le_refl _) _
    have hq2 := hq.keep k3 (by simp)
    exact ⟨he, heap_alloc_new w2 _, h3.below ba, by omega, hb2.size, by omega, hb2.alloc hb2.size _, hq2.keep (Keeps.ofBelow ba []) (by simp), by omega, by omega⟩)
  have kn : ∀ (m : Int) (wx : World) b r cs (l : List UInt8), (m = 18446744073709551615 ∨ m = 4096) → GetAt w wx b r cs (0 :: l) → Calls Try.prog 57 #[.pointer (some ⟨r, 0, none⟩), .int .u64 m] wx fun e w2 => e = .returned (.int .u64 0) ∧ GetAt w w2 b r cs l := fun m wx b r cs l hm h => by
    obtain ⟨n, rfl, hn⟩ : ∃ n : Nat, m = (n : Int) ∧ n < 18446744073709551616 := ⟨m.toNat, by omega, by omega⟩
    have t : takeNum n (0 :: l) = (0, l, 0) := by have := takeNum_numL 0 n l (by omega) (by omega); rw [numL_0] at this; exact this
    have := takeNum_any h.rd n hn
    rw [t] at this
    exact this.mono (fun e w2 h2 => ⟨h2.1, h.step h2.2.1 h2.2.2⟩)
  have ks : ∀ (wx : World) b r cs (l : List UInt8), GetAt w wx b r cs (0 :: 0 :: 0 :: 0 :: l) → Calls Try.prog 58 #[.pointer (some ⟨r, 0, none⟩)] wx fun e w2 => e = .returned (.int .u32 0) ∧ GetAt w w2 b r cs l := fun wx b r cs l h => by
    have t : takeBe 4 (0 :: 0 :: 0 :: 0 :: l) = (0, l, 0) := by have := takeBe_put 4 0 l; rw [beL_40] at this; exact this
    have := small_take h.rd
    rw [t] at this
    exact this.mono (fun e w2 h2 => ⟨h2.1, h.step h2.2.1 h2.2.2⟩)
  have kb : ∀ (wx : World) b r cs (l : List UInt8), GetAt w wx b r cs (0 :: l) → Calls Try.prog 59 #[.pointer (some ⟨r, 0, none⟩)] wx fun e w2 => e = .returned (.bool false) ∧ GetAt w w2 b r cs l := fun wx b r cs l h => (takeBool0 h.rd).mono (fun e w2 h2 => ⟨h2.1, h.step h2.2.1 h2.2.2⟩)
  have kt : ∀ (m : Int) (wx : World) b r cs (l : List UInt8), (m = 96 ∨ m = 32) → GetAt w wx b r cs (0 :: l) → Calls Try.prog 60 #[.pointer (some ⟨r, 0, none⟩), .int .i64 m] wx fun e w2 => e = .returned (.string ⟨#[]⟩) ∧ GetAt w w2 b r cs l := fun m wx b r cs l hm h => by
    have t : takeText m (0 :: l) = ([], l, 0) := by have := takeText_put [] l m (by simp) (by simp; omega); rw [show ([] : List UInt8).length = 0 from rfl, numL_0] at this; exact this
    have := takeText_any h.rd m (by omega)
    rw [t] at this
    exact this.mono (fun e w2 h2 => ⟨h2.1, h.step h2.2.1 h2.2.2⟩)
  have kz : ∀ (wx : World) b r cs, GetAt w wx b r cs Z → Calls Try.prog 55 #[.pointer (some ⟨r, 0, none⟩), .int .i64 32] wx fun e w2 => e = .returned (.string (str Z)) ∧ GetAt w w2 b r cs [] := fun wx b r cs h => by
    have := bytes_take h.rd 32 (by omega)
    rw [show Z.take 32 = Z from List.take_of_length_le (by omega), show Z.drop 32 = [] from List.drop_of_length_le (by omega)] at this
    exact this.mono (fun e w2 h2 => ⟨h2.1, h.step h2.2.1 h2.2.2⟩)
  have ke : ∀ (wx : World) b r cs, GetAt w wx b r cs [] → Calls Try.prog 61 #[.pointer (some ⟨r, 0, none⟩)] wx fun e w2 => e = .returned (.int .i64 0) ∧ AnAt w2 b cs ∧ AnAt w2 w.heap.size #[.int .u64 0, .int .u32 0, .bool false, .string ⟨#[]⟩, .int .i64 0, .string ⟨#[]⟩, .int .i64 0, .int .i64 0, .string ⟨#[]⟩] ∧ Below w.heap.size w w2 := fun wx b r cs h => (end_any h.rd).mono (fun e w2 h2 => ⟨h2.1, h.an.keep h2.2 (by simp [h.ne]), h.res.keep h2.2 (by simp [h.nr]), h.bel.trans (h2.2.below h.bel.size (by intro x hx; simp at hx; subst hx; exact h.gr))⟩)
  have c1 : ∀ w', Calls Try.prog 13 #[.agg #[.int .u64 0, .int .u32 0, .bool false, .string ⟨#[]⟩, .int .i64 (-1), .string ⟨#[]⟩, .int .i64 0, .int .i64 0, .string (str Z)]] w' fun e w2 => e = .returned (.bool true) ∧ Below w'.heap.size w' w2 := fun w' => may_yes 0 0 false ⟨#[]⟩ (-1) ⟨#[]⟩ 0 0 (str Z) w' (by decide) (fun _ => rfl) (by simp [mayRootB]) (by decide) (by decide) (by rw [str_size, hZl])
  rw [← hZ]
  clear hZ hZl
  replace k0 := Lib.hid k0; replace kn := Lib.hid kn; replace ks := Lib.hid ks; replace kb := Lib.hid kb; replace kt := Lib.hid kt; replace kz := Lib.hid kz; replace ke := Lib.hid ke; replace c1 := Lib.hid c1
  go_enter Try.func10, Try.ntmps10
  go_wp2_with (first
    | (go_at_call 54; (with_reducible refine (read_any _ _).mono ?_); rintro e w1 ⟨rfl, hR, bR⟩; rw [str_toList] at hR; have hR2 : RdAt w1 (w.heap.size + 1) (H0 ++ Z) 0 := (by simpa using hR); have hq : AnAt w1 w.heap.size #[.int .u64 0, .int .u32 0, .bool false, .string ⟨#[]⟩, .int .i64 0, .string ⟨#[]⟩, .int .i64 0, .int .i64 0, .string ⟨#[]⟩] := (boxRow bR).1; have hb := (boxRow bR).2.2.2; replace hR2 := Lib.hid hR2; replace hq := Lib.hid hq; replace hb := Lib.hid hb; clear hR bR)
    | (go_at_call 55; (with_reducible refine (k0.out _ hR2.out hq.out hb.out).mono ?_); rintro e w2 ⟨rfl, hh⟩; have g1 := Lib.hid hh; clear hh hR2 hq hb)
    | (go_at_call 57; (with_reducible refine (kn.out _ _ _ _ _ _ (Or.inl rfl) g1.out).mono ?_); rintro e w2 ⟨rfl, hh⟩; (try clear dd ff); have dd := hh.an.cell 0; have ff := hh.an.free 0; have g2 := hh.set 0 (.int .u64 0) #[.int .u64 0, .int .u32 0, .bool false, .string ⟨#[]⟩, .int .i64 0, .string ⟨#[]⟩, .int .i64 0, .int .i64 0, .string ⟨#[]⟩] rfl; replace g2 := Lib.hid g2; clear hh g1)
    | (go_at_call 58; (with_reducible refine (ks.out _ _ _ _ _ g2.out).mono ?_); rintro e w2 ⟨rfl, hh⟩; (try clear dd ff); have dd := hh.an.cell 1; have ff := hh.an.free 1; have g3 := hh.set 1 (.int .u32 0) #[.int .u64 0, .int .u32 0, .bool false, .string ⟨#[]⟩, .int .i64 0, .string ⟨#[]⟩, .int .i64 0, .int .i64 0, .string ⟨#[]⟩] rfl; replace g3 := Lib.hid g3; clear hh g2)
    | (go_at_call 59; (with_reducible refine (kb.out _ _ _ _ _ g3.out).mono ?_); rintro e w2 ⟨rfl, hh⟩; (try clear dd ff); have dd := hh.an.cell 2; have ff := hh.an.free 2; have g4 := hh.set 2 (.bool false) #[.int .u64 0, .int .u32 0, .bool false, .string ⟨#[]⟩, .int .i64 0, .string ⟨#[]⟩, .int .i64 0, .int .i64 0, .string ⟨#[]⟩] rfl; replace g4 := Lib.hid g4; clear hh g3)
    | (go_at_call 60; (with_reducible refine (kt.out _ _ _ _ _ _ (Or.inl rfl) g4.out).mono ?_); rintro e w2 ⟨rfl, hh⟩; (try clear dd ff); have dd := hh.an.cell 3; have ff := hh.an.free 3; have g5 := hh.set 3 (.string ⟨#[]⟩) #[.int .u64 0, .int .u32 0, .bool false, .string ⟨#[]⟩, .int .i64 0, .string ⟨#[]⟩, .int .i64 0, .int .i64 0, .string ⟨#[]⟩] rfl; replace g5 := Lib.hid g5; clear hh g4)
    | (go_at_call 57; (with_reducible refine (kn.out _ _ _ _ _ _ (Or.inr rfl) g5.out).mono ?_); rintro e w2 ⟨rfl, hh⟩; (try clear dd ff); have dd := hh.an.cell 4; have ff := hh.an.free 4; have g6 := hh.set 4 (.int .i64 (-1)) #[.int .u64 0, .int .u32 0, .bool false, .string ⟨#[]⟩, .int .i64 (-1), .string ⟨#[]⟩, .int .i64 0, .int .i64 0, .string ⟨#[]⟩] rfl; replace g6 := Lib.hid g6; clear hh g5)
    | (go_at_call 60; (with_reducible refine (kt.out _ _ _ _ _ _ (Or.inr rfl) g6.out).mono ?_); rintro e w2 ⟨rfl, hh⟩; (try clear dd ff); have dd := hh.an.cell 5; have ff := hh.an.free 5; have g7 := hh.set 5 (.string ⟨#[]⟩) #[.int .u64 0, .int .u32 0, .bool false, .string ⟨#[]⟩, .int .i64 (-1), .string ⟨#[]⟩, .int .i64 0, .int .i64 0, .string ⟨#[]⟩] rfl; replace g7 := Lib.hid g7; clear hh g6)
    | (go_at_call 57; (with_reducible refine (kn.out _ _ _ _ _ _ (Or.inr rfl) g7.out).mono ?_); rintro e w2 ⟨rfl, hh⟩; (try clear dd ff); have dd := hh.an.cell 6; have ff := hh.an.free 6; have g8 := hh.set 6 (.int .i64 0) #[.int .u64 0, .int .u32 0, .bool false, .string ⟨#[]⟩, .int .i64 (-1), .string ⟨#[]⟩, .int .i64 0, .int .i64 0, .string ⟨#[]⟩] rfl; replace g8 := Lib.hid g8; clear hh g7)
    | (go_at_call 57; (with_reducible refine (kn.out _ _ _ _ _ _ (Or.inr rfl) g8.out).mono ?_); rintro e w2 ⟨rfl, hh⟩; (try clear dd ff); have dd := hh.an.cell 7; have ff := hh.an.free 7; have g9 := hh.set 7 (.int .i64 0) #[.int .u64 0, .int .u32 0, .bool false, .string ⟨#[]⟩, .int .i64 (-1), .string ⟨#[]⟩, .int .i64 0, .int .i64 0, .string ⟨#[]⟩] rfl; replace g9 := Lib.hid g9; clear hh g8)
    | (go_at_call 55; (with_reducible refine (kz.out _ _ _ _ g9.out).mono ?_); rintro e w2 ⟨rfl, hh⟩; (try clear dd ff); have dd := hh.an.cell 8; have ff := hh.an.free 8; have g10 := hh.set 8 (.string (str Z)) #[.int .u64 0, .int .u32 0, .bool false, .string ⟨#[]⟩, .int .i64 (-1), .string ⟨#[]⟩, .int .i64 0, .int .i64 0, .string (str Z)] rfl; replace g10 := Lib.hid g10; clear hh g9)
    | (go_at_call 61; (with_reducible refine (ke.out _ _ _ _ g10.out).mono ?_); rintro e w2 ⟨rfl, ha, hq, hb⟩; replace hq := Lib.hid hq; (try clear dd ff); have d0 := ha.cell 0; have d1 := ha.cell 1; have d2 := ha.cell 2; have d3 := ha.cell 3; have d4 := ha.cell 4; have d5 := ha.cell 5; have d6 := ha.cell 6; have d7 := ha.cell 7; have d8 := ha.cell 8; replace ha := Lib.hid ha; replace hb := Lib.hid hb; clear g10)
    | (go_at_call 13; (with_reducible refine (c1.out _).mono ?_); rintro e w2 ⟨rfl, b2⟩; have ha2 := ha.out.keep (Keeps.ofBelow b2 []) (by simp); clear d0 d1 d2 d3 d4 d5 d6 d7 d8; have d0 := ha2.cell 0; have d1 := ha2.cell 1; have d2 := ha2.cell 2; have d3 := ha2.cell 3; have d4 := ha2.cell 4; have d5 := ha2.cell 5; have d6 := ha2.cell 6; have d7 := ha2.cell 7; have d8 := ha2.cell 8; have hq2 := hq.out.keep (Keeps.ofBelow b2 []) (by simp); have x0 := hq2.cell 0; have y0 := hq2.free 0; have x1 := hq2.cell 1; have y1 := hq2.free 1; have x2 := hq2.cell 2; have y2 := hq2.free 2; have x3 := hq2.cell 3; have y3 := hq2.free 3; have x4 := hq2.cell 4; have y4 := hq2.free 4; have x5 := hq2.cell 5; have y5 := hq2.free 5; have x6 := hq2.cell 6; have y6 := hq2.free 6; have x7 := hq2.cell 7; have y7 := hq2.free 7; have x8 := hq2.cell 8; have y8 := hq2.free 8; replace hq2 := Lib.hid hq2; replace ha2 := Lib.hid ha2; replace hb := Lib.hid (belowCont hb.out b2); clear b2))
  have hqf := hq2.out
  unfold AnAt at hqf
  refine bodyPost_ret (get_results _ _ w.heap.size #[.int .u64 0, .int .u32 0, .bool false, .string ⟨#[]⟩, .int .i64 (-1), .string ⟨#[]⟩, .int .i64 0, .int .i64 0, .string (str Z)] rfl rfl (by simp [World.setCell, Array.getElem?_modify, hqf]) rfl) rfl ?_
  exact ⟨rfl, (((((((((hb.out.setCell (p := ⟨w.heap.size, 0, none⟩) (Nat.le_refl _) _).setCell (p := ⟨w.heap.size, 1, none⟩) (Nat.le_refl _) _).setCell (p := ⟨w.heap.size, 2, none⟩) (Nat.le_refl _) _).setCell (p := ⟨w.heap.size, 3, none⟩) (Nat.le_refl _) _).setCell (p := ⟨w.heap.size, 4, none⟩) (Nat.le_refl _) _).setCell (p := ⟨w.heap.size, 5, none⟩) (Nat.le_refl _) _).setCell (p := ⟨w.heap.size, 6, none⟩) (Nat.le_refl _) _).setCell (p := ⟨w.heap.size, 7, none⟩) (Nat.le_refl _) _).setCell (p := ⟨w.heap.size, 8, none⟩) (Nat.le_refl _) _)⟩
end
end Go.Proofs.Ytdhboldmffiklab.anchor
