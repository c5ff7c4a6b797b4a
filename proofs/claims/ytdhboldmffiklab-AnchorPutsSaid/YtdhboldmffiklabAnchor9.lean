/- Of no bytes no anchor is read (anchor.Get). No condition. -/
import Derived.Test.YtdhboldmffiklabAnchor8
namespace Go.Proofs.Ytdhboldmffiklab.anchor
open Go.RowKit
open Go.Proofs.Ytdhboldmffiklab.code
attribute [local go_sem ↓] Go.wp_at_zero Go.wp_at_succ
attribute [local go_sem] str_size
set_option linter.unusedVariables false
set_option maxRecDepth 100000
attribute [local go_sem ↓] yielded_undef

theorem number_bad {w : World} {g : Nat} {l : List UInt8} {e : Int} (h : RdAt w g l e) (he : e ≠ 0) (k : Int) :
    Calls Try.prog 101 #[.pointer (some ⟨g, 0, none⟩), .int .i64 k] w fun e w' => e = .returned (.int .u64 0) ∧ Below w.heap.size w w' := by
  have hb : Calls Try.prog 55 #[.pointer (some ⟨g, 0, none⟩), .int .i64 k] w fun e w' => e = .returned (.string ⟨#[]⟩) ∧ Below w.heap.size w w' := bytes_bad h he k
  clear h he
  replace hb := Lib.hid hb
  go_enter Try.func101, Try.ntmps101
  go_wp2_with (go_at_call 55; (with_reducible refine hb.out.mono ?_); rintro e w1 ⟨rfl, b1⟩; replace b1 := Lib.hid b1)
  go_loop [5, 13] (fun n i => n = .int .u64 0 ∧ i = .int .i64 0) (fun _ _ => 0)
  case atStart => exact ⟨rfl, rfl⟩
  case round =>
    obtain ⟨rfl, rfl⟩ := hrel
    go_wp2
    go_ret
    exact ⟨rfl, b1.out⟩
theorem small_bad {w : World} {g : Nat} {l : List UInt8} {e : Int} (h : RdAt w g l e) (he : e ≠ 0) :
    Calls Try.prog 58 #[.pointer (some ⟨g, 0, none⟩)] w fun e w' => e = .returned (.int .u32 0) ∧ Below w.heap.size w w' := by
  have hb := number_bad h he 4
  clear h he
  replace hb := Lib.hid hb
  go_enter Try.func58, Try.ntmps58
  go_wp2_with (go_at_call 101; (with_reducible refine hb.out.mono ?_); rintro e w1 ⟨rfl, b1⟩; replace b1 := Lib.hid b1)
  go_ret
  exact ⟨rfl, b1.out⟩
theorem bool_bad {w : World} {g : Nat} {l : List UInt8} {e : Int} (h : RdAt w g l e) (he : e ≠ 0) :
    Calls Try.prog 59 #[.pointer (some ⟨g, 0, none⟩)] w fun e w' => e = .returned (.bool false) ∧ Below w.heap.size w w' := by
  have hb := takeNum_bad h he 1
  clear h he
  replace hb := Lib.hid hb
  go_enter Try.func59, Try.ntmps59
  go_wp2_with (go_at_call 57; (with_reducible refine hb.out.mono ?_); rintro e w1 ⟨rfl, b1⟩; replace b1 := Lib.hid b1)
  go_ret
  exact ⟨rfl, b1.out⟩
theorem text_bad {w : World} {g : Nat} {l : List UInt8} {e : Int} (h : RdAt w g l e) (he : e ≠ 0) (most : Nat) (h0 : 0 < most) (h1 : most < 65536) :
    Calls Try.prog 60 #[.pointer (some ⟨g, 0, none⟩), .int .i64 (most : Int)] w fun e w' => e = .returned (.string ⟨#[]⟩) ∧ Below w.heap.size w w' := by
  have hn := fun x => takeNum_bad h he x
  have hb : ∀ w', RdAt w' g l e → Calls Try.prog 55 #[.pointer (some ⟨g, 0, none⟩), .int .i64 0] w' fun e w2 => e = .returned (.string ⟨#[]⟩) ∧ Below w'.heap.size w' w2 := fun w' h' => bytes_bad h' he 0
  have e1 : ¬ (most : Int) < 0 := by omega
  have e2 : ¬ (65536 : Int) < (most : Int) := by omega
  have e3 : (0 : Int) < (most : Int) := by omega
  have e4 : (most : Int) < 65536 := by omega
  have e5 : IntKind.u64.wrap (most : Int) = (most : Int) := IntWalk.u64_in _ (by omega)
  replace h := Lib.hid h; replace hn := Lib.hid hn; replace hb := Lib.hid hb
  clear he h0 h1
  go_enter Try.func60, Try.ntmps60
  go_wp2_with (first | (go_at_call 57; (with_reducible refine (hn.out _).mono ?_); rintro e w1 ⟨rfl, b1⟩; have h2 := Lib.hid (h.out.below b1); replace b1 := Lib.hid b1) | (go_at_call 55; (with_reducible refine (hb.out _ h2.out).mono ?_); rintro e w2 ⟨rfl, b2⟩; replace b2 := Lib.hid b2))
  go_ret
  exact ⟨rfl, belowCont b1.out b2.out⟩
/-- 'Get' of no bytes, on its way -/
structure GetE (w wx : World) (b r : Nat) (cs : Array Value) : Prop where
  an : AnAt wx b cs
  rd : RdAt wx r [] 2
  ne : b ≠ r
  gb : w.heap.size ≤ b
  bel : Below w.heap.size w wx
  res : AnAt wx w.heap.size #[.int .u64 0, .int .u32 0, .bool false, .string ⟨#[]⟩, .int .i64 0, .string ⟨#[]⟩, .int .i64 0, .int .i64 0, .string ⟨#[]⟩]
  nb : w.heap.size ≠ b
  gr : w.heap.size ≤ r
  nr : w.heap.size ≠ r
theorem GetE.below {w wx w2 : World} {b r : Nat} {cs : Array Value} (h : GetE w wx b r cs) (k : Below wx.heap.size wx w2) : GetE w w2 b r cs :=
  ⟨h.an.keep (Keeps.ofBelow k []) (by simp), h.rd.below k, h.ne, h.gb, belowCont h.bel k, h.res.keep (Keeps.ofBelow k []) (by simp), h.nb, h.gr, h.nr⟩
theorem GetE.set {w wx : World} {b r : Nat} {cs : Array Value} (h : GetE w wx b r cs) (i : Nat) (v : Value) (cs' : Array Value) (e : cs.setIfInBounds i v = cs') : GetE w (wx.setCell ⟨b, i, none⟩ v) b r cs' := by
  subst e
  have k : Keeps [b] wx (wx.setCell ⟨b, i, none⟩ v) := (Keeps.refl [b] wx).setCell (p := ⟨b, i, none⟩) (Or.inl (by simp)) _
  refine ⟨?_, h.rd.keep k (by simp [h.ne.symm]), h.ne, h.gb, h.bel.setCell (p := ⟨b, i, none⟩) h.gb _, h.res.keep k (by simp [h.nb]), h.nb, h.gr, h.nr⟩
  have := h.an
  unfold AnAt at this ⊢
  simp [World.setCell, Array.getElem?_modify, this]
theorem get_resultsE (tmps : Array Value) (W' : World) (g : Nat) (cs : Array Value) (h2 : tmps.getD 2 undef = .pointer (some ⟨g, 0, none⟩)) (h3 : tmps.getD 3 undef = .int .i64 2) (hg : W'.heap[g]? = some (.cells cs 27 (0, 0))) (hi : cs.size = 9) :
    (results Try.f10 tmps).run Try.prog W' = .ok (.tuple #[.agg cs, .int .i64 2]) W' := by
  have h2' : tmps[2]?.getD undef = .pointer (some ⟨g, 0, none⟩) := by simpa using h2
  have h3' : tmps[3]?.getD undef = .int .i64 2 := by simpa using h3
  have hs : (Try.prog.info? 27).map (·.size) = some cs.size := by rw [hi]; kernel_rfl
  simp [results, Try.results10, h2', h3', asAddr, run_loadVar_row W' g 27 27 cs (0, 0) _ hg Try.underlying27 rfl hs]
set_option maxHeartbeats 8000000 in
theorem get_empty (w : World) : Calls Try.prog 10 #[.string ⟨#[]⟩] w fun e w' => e = .returned (.tuple #[.agg #[.int .u64 0, .int .u32 0, .bool false, .string ⟨#[]⟩, .int .i64 0, .string ⟨#[]⟩, .int .i64 0, .int .i64 0, .string ⟨#[]⟩], .int .i64 2]) ∧ Below w.heap.size w w' := by
  have k0 : ∀ wx, RdAt wx (w.heap.size + 1) [] 0 → AnAt wx w.heap.size #[.int .u64 0, .int .u32 0, .bool false, .string ⟨#[]⟩, .int .i64 0, .string ⟨#[]⟩, .int .i64 0, .int .i64 0, .string ⟨#[]⟩] → Below w.heap.size w wx → Calls Try.prog 55 #[.pointer (some ⟨w.heap.size + 1, 0, none⟩), .int .i64 4] wx fun e w2 => e = .returned (.string ⟨#[]⟩) ∧ RdAt w2 (w.heap.size + 1) [] 2 ∧ AnAt w2 w.heap.size #[.int .u64 0, .int .u32 0, .bool false, .string ⟨#[]⟩, .int .i64 0, .string ⟨#[]⟩, .int .i64 0, .int .i64 0, .string ⟨#[]⟩] ∧ Below w.heap.size w w2 := fun wx hr hq hb => (bytes_short hr 4 (Or.inr (by simp))).mono (fun e w2 h2 => ⟨h2.1, h2.2.1, hq.keep h2.2.2 (by simp), hb.trans (h2.2.2.below hb.size (by intro x hx; simp at hx; omega))⟩)
  have kf : ∀ wx r, RdAt wx r [] 2 → Calls Try.prog 56 #[.pointer (some ⟨r, 0, none⟩), .int .i64 3] wx fun e w2 => e = .returned (.tuple #[]) ∧ Below wx.heap.size wx w2 := fun wx r h => fail_same h 3 (Or.inr (by decide))
  have kb : ∀ (wx : World) b r cs, GetE w wx b r cs → Calls Try.prog 55 #[.pointer (some ⟨r, 0, none⟩), .int .i64 32] wx fun e w2 => e = .returned (.string ⟨#[]⟩) ∧ Below wx.heap.size wx w2 := fun wx b r cs h => bytes_bad h.rd (by decide) 32
  have kn : ∀ (m : Int) (wx : World) b r cs, GetE w wx b r cs → Calls Try.prog 57 #[.pointer (some ⟨r, 0, none⟩), .int .u64 m] wx fun e w2 => e = .returned (.int .u64 0) ∧ Below wx.heap.size wx w2 := fun m wx b r cs h => takeNum_bad h.rd (by decide) m
  have ks : ∀ (wx : World) b r cs, GetE w wx b r cs → Calls Try.prog 58 #[.pointer (some ⟨r, 0, none⟩)] wx fun e w2 => e = .returned (.int .u32 0) ∧ Below wx.heap.size wx w2 := fun wx b r cs h => small_bad h.rd (by decide)
  have kt : ∀ (wx : World) b r cs, GetE w wx b r cs → Calls Try.prog 59 #[.pointer (some ⟨r, 0, none⟩)] wx fun e w2 => e = .returned (.bool false) ∧ Below wx.heap.size wx w2 := fun wx b r cs h => bool_bad h.rd (by decide)
  have k96 : ∀ (wx : World) b r cs, GetE w wx b r cs → Calls Try.prog 60 #[.pointer (some ⟨r, 0, none⟩), .int .i64 96] wx fun e w2 => e = .returned (.string ⟨#[]⟩) ∧ Below wx.heap.size wx w2 := fun wx b r cs h => text_bad h.rd (by decide) 96 (by decide) (by decide)
  have k32 : ∀ (wx : World) b r cs, GetE w wx b r cs → Calls Try.prog 60 #[.pointer (some ⟨r, 0, none⟩), .int .i64 32] wx fun e w2 => e = .returned (.string ⟨#[]⟩) ∧ Below wx.heap.size wx w2 := fun wx b r cs h => text_bad h.rd (by decide) 32 (by decide) (by decide)
  have ke : ∀ (wx : World) b r cs, GetE w wx b r cs → Calls Try.prog 61 #[.pointer (some ⟨r, 0, none⟩)] wx fun e w2 => e = .returned (.int .i64 2) ∧ AnAt w2 w.heap.size #[.int .u64 0, .int .u32 0, .bool false, .string ⟨#[]⟩, .int .i64 0, .string ⟨#[]⟩, .int .i64 0, .int .i64 0, .string ⟨#[]⟩] ∧ Below w.heap.size w w2 := fun wx b r cs h => (end_any h.rd).mono (fun e w2 h2 => ⟨h2.1, h.res.keep h2.2 (by simp [h.nr]), h.bel.trans (h2.2.below h.bel.size (by intro x hx; simp at hx; subst hx; exact h.gr))⟩)
  have hne : ((⟨#[]⟩ : ByteArray).toList != (⟨#[108, 111, 100, 101]⟩ : ByteArray).toList) = true := by decide +kernel
  replace k0 := Lib.hid k0; replace kf := Lib.hid kf; replace kb := Lib.hid kb; replace kn := Lib.hid kn; replace ks := Lib.hid ks; replace kt := Lib.hid kt; replace k96 := Lib.hid k96; replace k32 := Lib.hid k32; replace ke := Lib.hid ke
  go_enter Try.func10, Try.ntmps10
  go_wp2_with (first
    | (go_at_call 54; (with_reducible refine (read_any _ _).mono ?_); rintro e w1 ⟨rfl, hR, bR⟩; have hR2 : RdAt w1 (w.heap.size + 1) [] 0 := (by simpa using hR); have hq : AnAt w1 w.heap.size #[.int .u64 0, .int .u32 0, .bool false, .string ⟨#[]⟩, .int .i64 0, .string ⟨#[]⟩, .int .i64 0, .int .i64 0, .string ⟨#[]⟩] := (boxRow bR).1; have hb := (boxRow bR).2.2.2; replace hR2 := Lib.hid hR2; replace hq := Lib.hid hq; replace hb := Lib.hid hb; clear hR bR)
    | (go_at_call 55; (with_reducible refine (k0.out _ hR2.out hq.out hb.out).mono ?_); rintro e w2 ⟨rfl, hR3, hq3, hb3⟩; replace hR3 := Lib.hid hR3; replace hq3 := Lib.hid hq3; replace hb3 := Lib.hid hb3; clear hR2 hq hb)
    | (go_at_call 56; (with_reducible refine (kf.out _ _ hR3.out).mono ?_); rintro e w2 ⟨rfl, b2⟩; have l1 := block_lt hR3.out; have hR4 := hR3.out.below b2; have hq4 := hq3.out.keep (Keeps.ofBelow b2 []) (by simp); have hb4 := belowCont hb3.out b2; have l2 := block_lt hR4; have ba : Below w2.heap.size w2 (w2.alloc (.cells #[.int .u64 0, .int .u32 0, .bool false, .string ⟨#[]⟩, .int .i64 0, .string ⟨#[]⟩, .int .i64 0, .int .i64 0, .string ⟨#[]⟩] 27)) := (Below.refl _ _).alloc (Nat.le_refl _) _; have g1 : GetE w (w2.alloc (.cells #[.int .u64 0, .int .u32 0, .bool false, .string ⟨#[]⟩, .int .i64 0, .string ⟨#[]⟩, .int .i64 0, .int .i64 0, .string ⟨#[]⟩] 27)) w2.heap.size (w.heap.size + 1) #[.int .u64 0, .int .u32 0, .bool false, .string ⟨#[]⟩, .int .i64 0, .string ⟨#[]⟩, .int .i64 0, .int .i64 0, .string ⟨#[]⟩] := ⟨heap_alloc_new w2 _, hR4.below ba, (by omega), hb4.size, hb4.alloc hb4.size _, hq4.keep (Keeps.ofBelow ba []) (by simp), (by omega), (by omega), (by omega)⟩; clear l1 l2 ba hR4 hq4 hb4 hR3 hq3 hb3 b2; replace g1 := Lib.hid g1)
    | (go_at_call 57; (with_reducible refine (kn.out _ _ _ _ _ g1.out).mono ?_); rintro e w2 ⟨rfl, b2⟩; (try clear dd ff); have hh := g1.out.below b2; have dd := hh.an.cell 0; have ff := hh.an.free 0; have g2 := hh.set 0 (.int .u64 0) #[.int .u64 0, .int .u32 0, .bool false, .string ⟨#[]⟩, .int .i64 0, .string ⟨#[]⟩, .int .i64 0, .int .i64 0, .string ⟨#[]⟩] rfl; replace g2 := Lib.hid g2; clear hh b2 g1)
    | (go_at_call 58; (with_reducible refine (ks.out _ _ _ _ g2.out).mono ?_); rintro e w2 ⟨rfl, b2⟩; (try clear dd ff); have hh := g2.out.below b2; have dd := hh.an.cell 1; have ff := hh.an.free 1; have g3 := hh.set 1 (.int .u32 0) #[.int .u64 0, .int .u32 0, .bool false, .string ⟨#[]⟩, .int .i64 0, .string ⟨#[]⟩, .int .i64 0, .int .i64 0, .string ⟨#[]⟩] rfl; replace g3 := Lib.hid g3; clear hh b2 g2)
    | (go_at_call 59; (with_reducible refine (kt.out _ _ _ _ g3.out).mono ?_); rintro e w2 ⟨rfl, b2⟩; (try clear dd ff); have hh := g3.out.below b2; have dd := hh.an.cell 2; have ff := hh.an.free 2; have g4 := hh.set 2 (.bool false) #[.int .u64 0, .int .u32 0, .bool false, .string ⟨#[]⟩, .int .i64 0, .string ⟨#[]⟩, .int .i64 0, .int .i64 0, .string ⟨#[]⟩] rfl; replace g4 := Lib.hid g4; clear hh b2 g3)
    | (go_at_call 60; (with_reducible refine (k96.out _ _ _ _ g4.out).mono ?_); rintro e w2 ⟨rfl, b2⟩; (try clear dd ff); have hh := g4.out.below b2; have dd := hh.an.cell 3; have ff := hh.an.free 3; have g5 := hh.set 3 (.string ⟨#[]⟩) #[.int .u64 0, .int .u32 0, .bool false, .string ⟨#[]⟩, .int .i64 0, .string ⟨#[]⟩, .int .i64 0, .int .i64 0, .string ⟨#[]⟩] rfl; replace g5 := Lib.hid g5; clear hh b2 g4)
    | (go_at_call 57; (with_reducible refine (kn.out _ _ _ _ _ g5.out).mono ?_); rintro e w2 ⟨rfl, b2⟩; (try clear dd ff); have hh := g5.out.below b2; have dd := hh.an.cell 4; have ff := hh.an.free 4; have g6 := hh.set 4 (.int .i64 (-1)) #[.int .u64 0, .int .u32 0, .bool false, .string ⟨#[]⟩, .int .i64 (-1), .string ⟨#[]⟩, .int .i64 0, .int .i64 0, .string ⟨#[]⟩] rfl; replace g6 := Lib.hid g6; clear hh b2 g5)
    | (go_at_call 60; (with_reducible refine (k32.out _ _ _ _ g6.out).mono ?_); rintro e w2 ⟨rfl, b2⟩; (try clear dd ff); have hh := g6.out.below b2; have dd := hh.an.cell 5; have ff := hh.an.free 5; have g7 := hh.set 5 (.string ⟨#[]⟩) #[.int .u64 0, .int .u32 0, .bool false, .string ⟨#[]⟩, .int .i64 (-1), .string ⟨#[]⟩, .int .i64 0, .int .i64 0, .string ⟨#[]⟩] rfl; replace g7 := Lib.hid g7; clear hh b2 g6)
    | (go_at_call 57; (with_reducible refine (kn.out _ _ _ _ _ g7.out).mono ?_); rintro e w2 ⟨rfl, b2⟩; (try clear dd ff); have hh := g7.out.below b2; have dd := hh.an.cell 6; have ff := hh.an.free 6; have g8 := hh.set 6 (.int .i64 0) #[.int .u64 0, .int .u32 0, .bool false, .string ⟨#[]⟩, .int .i64 (-1), .string ⟨#[]⟩, .int .i64 0, .int .i64 0, .string ⟨#[]⟩] rfl; replace g8 := Lib.hid g8; clear hh b2 g7)
    | (go_at_call 57; (with_reducible refine (kn.out _ _ _ _ _ g8.out).mono ?_); rintro e w2 ⟨rfl, b2⟩; (try clear dd ff); have hh := g8.out.below b2; have dd := hh.an.cell 7; have ff := hh.an.free 7; have g9 := hh.set 7 (.int .i64 0) #[.int .u64 0, .int .u32 0, .bool false, .string ⟨#[]⟩, .int .i64 (-1), .string ⟨#[]⟩, .int .i64 0, .int .i64 0, .string ⟨#[]⟩] rfl; replace g9 := Lib.hid g9; clear hh b2 g8)
    | (go_at_call 55; (with_reducible refine (kb.out _ _ _ _ g9.out).mono ?_); rintro e w2 ⟨rfl, b2⟩; (try clear dd ff); have hh := g9.out.below b2; have dd := hh.an.cell 8; have ff := hh.an.free 8; have g10 := hh.set 8 (.string ⟨#[]⟩) #[.int .u64 0, .int .u32 0, .bool false, .string ⟨#[]⟩, .int .i64 (-1), .string ⟨#[]⟩, .int .i64 0, .int .i64 0, .string ⟨#[]⟩] rfl; replace g10 := Lib.hid g10; clear hh b2 g9)
    | (go_at_call 61; (with_reducible refine (ke.out _ _ _ _ g10.out).mono ?_); rintro e w2 ⟨rfl, hq2, hb⟩; (try clear dd ff); have x0 := hq2.cell 0; have y0 := hq2.free 0; have x1 := hq2.cell 1; have y1 := hq2.free 1; have x2 := hq2.cell 2; have y2 := hq2.free 2; have x3 := hq2.cell 3; have y3 := hq2.free 3; have x4 := hq2.cell 4; have y4 := hq2.free 4; have x5 := hq2.cell 5; have y5 := hq2.free 5; have x6 := hq2.cell 6; have y6 := hq2.free 6; have x7 := hq2.cell 7; have y7 := hq2.free 7; have x8 := hq2.cell 8; have y8 := hq2.free 8; replace hq2 := Lib.hid hq2; replace hb := Lib.hid hb; clear g10))
  have hqf := hq2.out
  unfold AnAt at hqf
  refine bodyPost_ret (get_resultsE _ _ w.heap.size #[.int .u64 0, .int .u32 0, .bool false, .string ⟨#[]⟩, .int .i64 0, .string ⟨#[]⟩, .int .i64 0, .int .i64 0, .string ⟨#[]⟩] rfl rfl (by simp [World.setCell, Array.getElem?_modify, hqf]) rfl) rfl ?_
  exact ⟨rfl, (((((((((hb.out.setCell (p := ⟨w.heap.size, 0, none⟩) (Nat.le_refl _) _).setCell (p := ⟨w.heap.size, 1, none⟩) (Nat.le_refl _) _).setCell (p := ⟨w.heap.size, 2, none⟩) (Nat.le_refl _) _).setCell (p := ⟨w.heap.size, 3, none⟩) (Nat.le_refl _) _).setCell (p := ⟨w.heap.size, 4, none⟩) (Nat.le_refl _) _).setCell (p := ⟨w.heap.size, 5, none⟩) (Nat.le_refl _) _).setCell (p := ⟨w.heap.size, 6, none⟩) (Nat.le_refl _) _).setCell (p := ⟨w.heap.size, 7, none⟩) (Nat.le_refl _) _).setCell (p := ⟨w.heap.size, 8, none⟩) (Nat.le_refl _) _)⟩
end Go.Proofs.Ytdhboldmffiklab.anchor
