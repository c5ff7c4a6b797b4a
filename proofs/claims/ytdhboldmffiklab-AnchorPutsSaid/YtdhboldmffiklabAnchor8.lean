/- An anchor read back (anchor.Get): one that may be; and no bytes. No other condition. -/
import Derived.Test.YtdhboldmffiklabAnchor4
import Derived.Test.YtdhboldmffiklabAnchor7
namespace Go.Proofs.Ytdhboldmffiklab.anchor
open Go.RowKit
open Go.Proofs.Ytdhboldmffiklab.code
attribute [local go_sem ↓] Go.wp_at_zero Go.wp_at_succ
attribute [local go_sem] str_size
set_option linter.unusedVariables false
set_option maxRecDepth 100000
attribute [local go_sem ↓] yielded_undef
theorem takeBoolB {w : World} {g : Nat} {l : List UInt8} (b : Bool) (h : RdAt w g ((if b then 1 else 0) :: l) 0) : Calls Try.prog 59 #[.pointer (some ⟨g, 0, none⟩)] w fun e w' => e = .returned (.bool b) ∧ RdAt w' g l 0 ∧ Keeps [g] w w' := by
  cases b with
  | false => exact takeBool0 h
  | true =>
    have n1 : numL 1 = [1] := by rw [numL_small _ (by decide)]; rfl
    have t1 : takeNum 1 (1 :: l) = (1, l, 0) := by have := takeNum_numL 1 1 l (by omega) (by omega); rw [n1] at this; exact this
    have c1 : Calls Try.prog 57 #[.pointer (some ⟨g, 0, none⟩), .int .u64 1] w fun e w2 => e = .returned (.int .u64 1) ∧ RdAt w2 g l 0 ∧ Keeps [g] w w2 := by
      have := takeNum_any (show RdAt w g (1 :: l) 0 from h) 1 (by omega); rw [t1] at this; exact this
    clear h t1
    replace c1 := Lib.hid c1
    go_enter Try.func59, Try.ntmps59
    go_wp2_with (go_at_call 57; (with_reducible refine c1.out.mono ?_); rintro e w1 ⟨rfl, h1, k1⟩; replace h1 := Lib.hid h1)
    go_ret
    exact ⟨rfl, h1.out, k1⟩
/-- an anchor's bytes, as a list -/
def listB (gen ep q f m : Nat) (tu : Bool) (nx sm ch : List UInt8) : List UInt8 :=
  108 :: 111 :: 100 :: 101 :: (numL gen ++ (beL 4 ep ++ ((if tu then 1 else 0) :: (numL nx.length ++ (nx ++ (numL q ++ (numL sm.length ++ (sm ++ (numL f ++ (numL m ++ ch))))))))))
theorem listB_put (gen ep q f m : Nat) (tu : Bool) (nx sm ch : List UInt8) : putB (str (numL gen)) (str (beL 4 ep)) (str [if tu then 1 else 0]) (str (numL nx.length ++ nx)) (str (numL q)) (str (numL sm.length ++ sm)) (str (numL f)) (str (numL m)) (str ch) = str (listB gen ep q f m tu nx sm ch) := by
  have h0 : (⟨#[108, 111, 100, 101]⟩ : ByteArray) = str [108, 111, 100, 101] := rfl
  unfold putB listB
  rw [h0]
  simp only [str_append, List.append_assoc, List.cons_append, List.nil_append]
set_option maxHeartbeats 8000000 in
theorem get_yes (gen ep q f m : Nat) (tu : Bool) (pl : Int) (nx sm ch : List UInt8) (hgen : gen < 18446744073709551616) (hep : ep < 4294967296) (hq : (q : Int) - 1 = pl) (hq2 : q ≤ 4096) (hf : f ≤ 4096) (hm2 : m ≤ 4096) (hnx : nx.length ≤ 96) (hsm : sm.length ≤ 32) (hch : ch.length = 32)
    (c1 : ∀ w', Calls Try.prog 13 #[.agg #[.int .u64 (gen : Int), .int .u32 (ep : Int), .bool tu, .string (str nx), .int .i64 pl, .string (str sm), .int .i64 (f : Int), .int .i64 (m : Int), .string (str ch)]] w' fun e w2 => e = .returned (.bool true) ∧ Below w'.heap.size w' w2) (w : World) :
    Calls Try.prog 10 #[.string (str (listB gen ep q f m tu nx sm ch))] w fun e w' => e = .returned (.tuple #[.agg #[.int .u64 (gen : Int), .int .u32 (ep : Int), .bool tu, .string (str nx), .int .i64 pl, .string (str sm), .int .i64 (f : Int), .int .i64 (m : Int), .string (str ch)], .int .i64 0]) ∧ Below w.heap.size w w' := by
  obtain ⟨l9, h9⟩ : ∃ l, l = ch := ⟨_, rfl⟩
  obtain ⟨l8, h8⟩ : ∃ l, l = numL m ++ l9 := ⟨_, rfl⟩
  obtain ⟨l7, h7⟩ : ∃ l, l = numL f ++ l8 := ⟨_, rfl⟩
  obtain ⟨l6, h6⟩ : ∃ l, l = numL sm.length ++ (sm ++ l7) := ⟨_, rfl⟩
  obtain ⟨l5, h5⟩ : ∃ l, l = numL q ++ l6 := ⟨_, rfl⟩
  obtain ⟨l4, h4⟩ : ∃ l, l = numL nx.length ++ (nx ++ l5) := ⟨_, rfl⟩
  obtain ⟨l3, h3⟩ : ∃ l : List UInt8, l = (if tu then 1 else 0) :: l4 := ⟨_, rfl⟩
  obtain ⟨l2, h2⟩ : ∃ l, l = beL 4 ep ++ l3 := ⟨_, rfl⟩
  obtain ⟨l1, h1⟩ : ∃ l, l = numL gen ++ l2 := ⟨_, rfl⟩
  have hL : listB gen ep q f m tu nx sm ch = 108 :: 111 :: 100 :: 101 :: l1 := by rw [h1, h2, h3, h4, h5, h6, h7, h8, h9]; rfl
  rw [hL]
  have k0 : ∀ wx, RdAt wx (w.heap.size + 1) (108 :: 111 :: 100 :: 101 :: l1) 0 → AnAt wx w.heap.size #[.int .u64 0, .int .u32 0, .bool false, .string ⟨#[]⟩, .int .i64 0, .string ⟨#[]⟩, .int .i64 0, .int .i64 0, .string ⟨#[]⟩] → Below w.heap.size w wx → Calls Try.prog 55 #[.pointer (some ⟨w.heap.size + 1, 0, none⟩), .int .i64 4] wx fun e w2 => e = .returned (.string ⟨#[108, 111, 100, 101]⟩) ∧ GetAt w (w2.alloc (.cells #[.int .u64 0, .int .u32 0, .bool false, .string ⟨#[]⟩, .int .i64 0, .string ⟨#[]⟩, .int .i64 0, .int .i64 0, .string ⟨#[]⟩] 27)) w2.heap.size (w.heap.size + 1) #[.int .u64 0, .int .u32 0, .bool false, .string ⟨#[]⟩, .int .i64 0, .string ⟨#[]⟩, .int .i64 0, .int .i64 0, .string ⟨#[]⟩] l1 := fun wx hr hq hb => (bytes_take hr 4 (by simp)).mono (fun e w2 h2 => by
    obtain ⟨he, h3, k3⟩ := h2
    have l1 := block_lt h3
    have hb2 : Below w.heap.size w w2 := hb.trans (k3.below hb.size (by intro x hx; simp at hx; omega))
    have ba : Below w2.heap.size w2 (w2.alloc (.cells #[.int .u64 0, .int .u32 0, .bool false, .string ⟨#[]⟩, .int .i64 0, .string ⟨#[]⟩, .int .i64 0, .int .i64 0, .string ⟨#[]⟩] 27)) := (Below.refl _ _).alloc (Nat.le_refl _) _
    have hq2 := hq.keep k3 (by simp)
    exact ⟨he, heap_alloc_new w2 _, h3.below ba, by omega, hb2.size, by omega, hb2.alloc hb2.size _, hq2.keep (Keeps.ofBelow ba []) (by simp), by omega, by omega⟩)
  have kn : ∀ (n most : Nat) (l : List UInt8) (wx : World) b r cs, n < 18446744073709551616 → n ≤ most → most < 18446744073709551616 → GetAt w wx b r cs (numL n ++ l) → Calls Try.prog 57 #[.pointer (some ⟨r, 0, none⟩), .int .u64 (most : Int)] wx fun e w2 => e = .returned (.int .u64 (n : Int)) ∧ GetAt w w2 b r cs l := fun n most l wx b r cs hn hm hm2 h => by
    have := takeNum_any h.rd most hm2
    rw [takeNum_numL n most l hn hm] at this
    exact this.mono (fun e w2 h2 => ⟨h2.1, h.step h2.2.1 h2.2.2⟩)
  have k1 : ∀ (wx : World) b r cs, GetAt w wx b r cs l1 → Calls Try.prog 57 #[.pointer (some ⟨r, 0, none⟩), .int .u64 18446744073709551615] wx fun e w2 => e = .returned (.int .u64 (gen : Int)) ∧ GetAt w w2 b r cs l2 := fun wx b r cs h => kn gen 18446744073709551615 l2 wx b r cs hgen (by omega) (by omega) (h1 ▸ h)
  have k5 : ∀ (wx : World) b r cs, GetAt w wx b r cs l5 → Calls Try.prog 57 #[.pointer (some ⟨r, 0, none⟩), .int .u64 4096] wx fun e w2 => e = .returned (.int .u64 (q : Int)) ∧ GetAt w w2 b r cs l6 := fun wx b r cs h => kn q 4096 l6 wx b r cs (by omega) hq2 (by omega) (h5 ▸ h)
  have k7 : ∀ (wx : World) b r cs, GetAt w wx b r cs l7 → Calls Try.prog 57 #[.pointer (some ⟨r, 0, none⟩), .int .u64 4096] wx fun e w2 => e = .returned (.int .u64 (f : Int)) ∧ GetAt w w2 b r cs l8 := fun wx b r cs h => kn f 4096 l8 wx b r cs (by omega) hf (by omega) (h7 ▸ h)
  have k8 : ∀ (wx : World) b r cs, GetAt w wx b r cs l8 → Calls Try.prog 57 #[.pointer (some ⟨r, 0, none⟩), .int .u64 4096] wx fun e w2 => e = .returned (.int .u64 (m : Int)) ∧ GetAt w w2 b r cs l9 := fun wx b r cs h => kn m 4096 l9 wx b r cs (by omega) hm2 (by omega) (h8 ▸ h)
  have k2 : ∀ (wx : World) b r cs, GetAt w wx b r cs l2 → Calls Try.prog 58 #[.pointer (some ⟨r, 0, none⟩)] wx fun e w2 => e = .returned (.int .u32 (ep : Int)) ∧ GetAt w w2 b r cs l3 := fun wx b r cs h => by
    have t : takeBe 4 (beL 4 ep ++ l3) = (ep, l3, 0) := by have := takeBe_put 4 ep l3; rw [Nat.mod_eq_of_lt (by omega)] at this; exact this
    have := small_take (h2 ▸ h.rd)
    rw [t] at this
    exact this.mono (fun e w2 h2 => ⟨h2.1, h.step h2.2.1 h2.2.2⟩)
  have k3 : ∀ (wx : World) b r cs, GetAt w wx b r cs l3 → Calls Try.prog 59 #[.pointer (some ⟨r, 0, none⟩)] wx fun e w2 => e = .returned (.bool tu) ∧ GetAt w w2 b r cs l4 := fun wx b r cs h => (takeBoolB tu (h3 ▸ h.rd)).mono (fun e w2 h2 => ⟨h2.1, h.step h2.2.1 h2.2.2⟩)
  have k4 : ∀ (wx : World) b r cs, GetAt w wx b r cs l4 → Calls Try.prog 60 #[.pointer (some ⟨r, 0, none⟩), .int .i64 96] wx fun e w2 => e = .returned (.string (str nx)) ∧ GetAt w w2 b r cs l5 := fun wx b r cs h => by
    have := takeText_any (h4 ▸ h.rd) 96 (by omega)
    rw [takeText_put nx l5 96 (by omega) (by omega)] at this
    exact this.mono (fun e w2 h2 => ⟨h2.1, h.step h2.2.1 h2.2.2⟩)
  have k6 : ∀ (wx : World) b r cs, GetAt w wx b r cs l6 → Calls Try.prog 60 #[.pointer (some ⟨r, 0, none⟩), .int .i64 32] wx fun e w2 => e = .returned (.string (str sm)) ∧ GetAt w w2 b r cs l7 := fun wx b r cs h => by
    have := takeText_any (h6 ▸ h.rd) 32 (by omega)
    rw [takeText_put sm l7 32 (by omega) (by omega)] at this
    exact this.mono (fun e w2 h2 => ⟨h2.1, h.step h2.2.1 h2.2.2⟩)
  have kz : ∀ (wx : World) b r cs, GetAt w wx b r cs l9 → Calls Try.prog 55 #[.pointer (some ⟨r, 0, none⟩), .int .i64 32] wx fun e w2 => e = .returned (.string (str ch)) ∧ GetAt w w2 b r cs [] := fun wx b r cs h => by
    have := bytes_take (h9 ▸ h.rd) 32 (by omega)
    rw [show ch.take 32 = ch from List.take_of_length_le (by omega), show ch.drop 32 = [] from List.drop_of_length_le (by omega)] at this
    exact this.mono (fun e w2 h2 => ⟨h2.1, h.step h2.2.1 h2.2.2⟩)
  have ke : ∀ (wx : World) b r cs, GetAt w wx b r cs [] → Calls Try.prog 61 #[.pointer (some ⟨r, 0, none⟩)] wx fun e w2 => e = .returned (.int .i64 0) ∧ AnAt w2 b cs ∧ AnAt w2 w.heap.size #[.int .u64 0, .int .u32 0, .bool false, .string ⟨#[]⟩, .int .i64 0, .string ⟨#[]⟩, .int .i64 0, .int .i64 0, .string ⟨#[]⟩] ∧ Below w.heap.size w w2 := fun wx b r cs h => (end_any h.rd).mono (fun e w2 h2 => ⟨h2.1, h.an.keep h2.2 (by simp [h.ne]), h.res.keep h2.2 (by simp [h.nr]), h.bel.trans (h2.2.below h.bel.size (by intro x hx; simp at hx; subst hx; exact h.gr))⟩)
  have w1 : IntKind.i64.wrap (q : Int) = (q : Int) := IntWalk.i64_in _ (by omega)
  have w2 : IntKind.i64.wrap pl = pl := IntWalk.i64_in _ (by omega)
  have w3 : IntKind.i64.wrap (f : Int) = (f : Int) := IntWalk.i64_in _ (by omega)
  have w4 : IntKind.i64.wrap (m : Int) = (m : Int) := IntWalk.i64_in _ (by omega)
  have q0 : (0 : Int) ≤ (q : Int) := Int.natCast_nonneg _
  have q1 : (q : Int) ≤ 4096 := by omega
  have f0 : (0 : Int) ≤ (f : Int) := Int.natCast_nonneg _
  have f1 : (f : Int) ≤ 4096 := by omega
  have m0 : (0 : Int) ≤ (m : Int) := Int.natCast_nonneg _
  have m1 : (m : Int) ≤ 4096 := by omega
  clear h1 h2 h3 h4 h5 h6 h7 h8 h9 hL kn hgen hep hq2 hf hm2 hnx hsm hch
  generalize str nx = NX at *
  generalize str sm = SM at *
  generalize str ch = CH at *
  replace k0 := Lib.hid k0; replace k1 := Lib.hid k1; replace k2 := Lib.hid k2; replace k3 := Lib.hid k3; replace k4 := Lib.hid k4; replace k5 := Lib.hid k5; replace k6 := Lib.hid k6; replace k7 := Lib.hid k7; replace k8 := Lib.hid k8; replace kz := Lib.hid kz; replace ke := Lib.hid ke; replace c1 := Lib.hid c1
  go_enter Try.func10, Try.ntmps10
  go_wp2_with (first
    | (go_at_call 54; (with_reducible refine (read_any _ _).mono ?_); rintro e w1 ⟨rfl, hR, bR⟩; rw [str_toList] at hR; have hR2 : RdAt w1 (w.heap.size + 1) (108 :: 111 :: 100 :: 101 :: l1) 0 := (by simpa using hR); have hq : AnAt w1 w.heap.size #[.int .u64 0, .int .u32 0, .bool false, .string ⟨#[]⟩, .int .i64 0, .string ⟨#[]⟩, .int .i64 0, .int .i64 0, .string ⟨#[]⟩] := (boxRow bR).1; have hb := (boxRow bR).2.2.2; replace hR2 := Lib.hid hR2; replace hq := Lib.hid hq; replace hb := Lib.hid hb; clear hR bR)
    | (go_at_call 55; (with_reducible refine (k0.out _ hR2.out hq.out hb.out).mono ?_); rintro e w2 ⟨rfl, hh⟩; have g1 := Lib.hid hh; clear hh hR2 hq hb)
    | (go_at_call 57; (with_reducible refine (k1.out _ _ _ _ g1.out).mono ?_); rintro e w2 ⟨rfl, hh⟩; (try clear dd ff); have dd := hh.an.cell 0; have ff := hh.an.free 0; have g2 := hh.set 0 (.int .u64 (gen : Int)) #[.int .u64 (gen : Int), .int .u32 0, .bool false, .string ⟨#[]⟩, .int .i64 0, .string ⟨#[]⟩, .int .i64 0, .int .i64 0, .string ⟨#[]⟩] rfl; replace g2 := Lib.hid g2; clear hh g1)
    | (go_at_call 58; (with_reducible refine (k2.out _ _ _ _ g2.out).mono ?_); rintro e w2 ⟨rfl, hh⟩; (try clear dd ff); have dd := hh.an.cell 1; have ff := hh.an.free 1; have g3 := hh.set 1 (.int .u32 (ep : Int)) #[.int .u64 (gen : Int), .int .u32 (ep : Int), .bool false, .string ⟨#[]⟩, .int .i64 0, .string ⟨#[]⟩, .int .i64 0, .int .i64 0, .string ⟨#[]⟩] rfl; replace g3 := Lib.hid g3; clear hh g2)
    | (go_at_call 59; (with_reducible refine (k3.out _ _ _ _ g3.out).mono ?_); rintro e w2 ⟨rfl, hh⟩; (try clear dd ff); have dd := hh.an.cell 2; have ff := hh.an.free 2; have g4 := hh.set 2 (.bool tu) #[.int .u64 (gen : Int), .int .u32 (ep : Int), .bool tu, .string ⟨#[]⟩, .int .i64 0, .string ⟨#[]⟩, .int .i64 0, .int .i64 0, .string ⟨#[]⟩] rfl; replace g4 := Lib.hid g4; clear hh g3)
    | (go_at_call 60; (with_reducible refine (k4.out _ _ _ _ g4.out).mono ?_); rintro e w2 ⟨rfl, hh⟩; (try clear dd ff); have dd := hh.an.cell 3; have ff := hh.an.free 3; have g5 := hh.set 3 (.string NX) #[.int .u64 (gen : Int), .int .u32 (ep : Int), .bool tu, .string NX, .int .i64 0, .string ⟨#[]⟩, .int .i64 0, .int .i64 0, .string ⟨#[]⟩] rfl; replace g5 := Lib.hid g5; clear hh g4)
    | (go_at_call 57; (with_reducible refine (k5.out _ _ _ _ g5.out).mono ?_); rintro e w2 ⟨rfl, hh⟩; (try clear dd ff); have dd := hh.an.cell 4; have ff := hh.an.free 4; have g6 := hh.set 4 (.int .i64 pl) #[.int .u64 (gen : Int), .int .u32 (ep : Int), .bool tu, .string NX, .int .i64 pl, .string ⟨#[]⟩, .int .i64 0, .int .i64 0, .string ⟨#[]⟩] rfl; replace g6 := Lib.hid g6; clear hh g5)
    | (go_at_call 60; (with_reducible refine (k6.out _ _ _ _ g6.out).mono ?_); rintro e w2 ⟨rfl, hh⟩; (try clear dd ff); have dd := hh.an.cell 5; have ff := hh.an.free 5; have g7 := hh.set 5 (.string SM) #[.int .u64 (gen : Int), .int .u32 (ep : Int), .bool tu, .string NX, .int .i64 pl, .string SM, .int .i64 0, .int .i64 0, .string ⟨#[]⟩] rfl; replace g7 := Lib.hid g7; clear hh g6)
    | (go_at_call 57; (with_reducible refine (k7.out _ _ _ _ g7.out).mono ?_); rintro e w2 ⟨rfl, hh⟩; (try clear dd ff); have dd := hh.an.cell 6; have ff := hh.an.free 6; have g8 := hh.set 6 (.int .i64 (f : Int)) #[.int .u64 (gen : Int), .int .u32 (ep : Int), .bool tu, .string NX, .int .i64 pl, .string SM, .int .i64 (f : Int), .int .i64 0, .string ⟨#[]⟩] rfl; replace g8 := Lib.hid g8; clear hh g7)
    | (go_at_call 57; (with_reducible refine (k8.out _ _ _ _ g8.out).mono ?_); rintro e w2 ⟨rfl, hh⟩; (try clear dd ff); have dd := hh.an.cell 7; have ff := hh.an.free 7; have g9 := hh.set 7 (.int .i64 (m : Int)) #[.int .u64 (gen : Int), .int .u32 (ep : Int), .bool tu, .string NX, .int .i64 pl, .string SM, .int .i64 (f : Int), .int .i64 (m : Int), .string ⟨#[]⟩] rfl; replace g9 := Lib.hid g9; clear hh g8)
    | (go_at_call 55; (with_reducible refine (kz.out _ _ _ _ g9.out).mono ?_); rintro e w2 ⟨rfl, hh⟩; (try clear dd ff); have dd := hh.an.cell 8; have ff := hh.an.free 8; have g10 := hh.set 8 (.string CH) #[.int .u64 (gen : Int), .int .u32 (ep : Int), .bool tu, .string NX, .int .i64 pl, .string SM, .int .i64 (f : Int), .int .i64 (m : Int), .string CH] rfl; replace g10 := Lib.hid g10; clear hh g9)
    | (go_at_call 61; (with_reducible refine (ke.out _ _ _ _ g10.out).mono ?_); rintro e w2 ⟨rfl, ha, hq, hb⟩; replace hq := Lib.hid hq; (try clear dd ff); have d0 := ha.cell 0; have d1 := ha.cell 1; have d2 := ha.cell 2; have d3 := ha.cell 3; have d4 := ha.cell 4; have d5 := ha.cell 5; have d6 := ha.cell 6; have d7 := ha.cell 7; have d8 := ha.cell 8; replace ha := Lib.hid ha; replace hb := Lib.hid hb; clear g10)
    | (go_at_call 13; (with_reducible refine (c1.out _).mono ?_); rintro e w2 ⟨rfl, b2⟩; have ha2 := ha.out.keep (Keeps.ofBelow b2 []) (by simp); clear d0 d1 d2 d3 d4 d5 d6 d7 d8; have d0 := ha2.cell 0; have d1 := ha2.cell 1; have d2 := ha2.cell 2; have d3 := ha2.cell 3; have d4 := ha2.cell 4; have d5 := ha2.cell 5; have d6 := ha2.cell 6; have d7 := ha2.cell 7; have d8 := ha2.cell 8; have hq2 := hq.out.keep (Keeps.ofBelow b2 []) (by simp); have x0 := hq2.cell 0; have y0 := hq2.free 0; have x1 := hq2.cell 1; have y1 := hq2.free 1; have x2 := hq2.cell 2; have y2 := hq2.free 2; have x3 := hq2.cell 3; have y3 := hq2.free 3; have x4 := hq2.cell 4; have y4 := hq2.free 4; have x5 := hq2.cell 5; have y5 := hq2.free 5; have x6 := hq2.cell 6; have y6 := hq2.free 6; have x7 := hq2.cell 7; have y7 := hq2.free 7; have x8 := hq2.cell 8; have y8 := hq2.free 8; replace hq2 := Lib.hid hq2; replace ha2 := Lib.hid ha2; replace hb := Lib.hid (belowCont hb.out b2); clear b2))
  have hqf := hq2.out
  unfold AnAt at hqf
  refine bodyPost_ret (get_results _ _ w.heap.size #[.int .u64 (gen : Int), .int .u32 (ep : Int), .bool tu, .string NX, .int .i64 pl, .string SM, .int .i64 (f : Int), .int .i64 (m : Int), .string CH] rfl rfl (by simp [World.setCell, Array.getElem?_modify, hqf]) rfl) rfl ?_
  exact ⟨rfl, (((((((((hb.out.setCell (p := ⟨w.heap.size, 0, none⟩) (Nat.le_refl _) _).setCell (p := ⟨w.heap.size, 1, none⟩) (Nat.le_refl _) _).setCell (p := ⟨w.heap.size, 2, none⟩) (Nat.le_refl _) _).setCell (p := ⟨w.heap.size, 3, none⟩) (Nat.le_refl _) _).setCell (p := ⟨w.heap.size, 4, none⟩) (Nat.le_refl _) _).setCell (p := ⟨w.heap.size, 5, none⟩) (Nat.le_refl _) _).setCell (p := ⟨w.heap.size, 6, none⟩) (Nat.le_refl _) _).setCell (p := ⟨w.heap.size, 7, none⟩) (Nat.le_refl _) _).setCell (p := ⟨w.heap.size, 8, none⟩) (Nat.le_refl _) _)⟩
end Go.Proofs.Ytdhboldmffiklab.anchor
