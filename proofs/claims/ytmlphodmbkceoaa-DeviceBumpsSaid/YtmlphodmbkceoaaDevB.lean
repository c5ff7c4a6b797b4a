/- A device on a disk of which nothing is written, whatever cuts are planned: the number rises with each bump that is done: the law DeviceBumps. No condition. -/
import Derived.Test.YtmlphodmbkceoaaDevC
import Derived.Test.YtmlphodmbkceoaaArgs
namespace Go.Proofs.Ytmlphodmbkceoaa.disk
open Go.RowKit
attribute [local go_sem ↓] Go.wp_at_zero Go.wp_at_succ
attribute [local go_sem] str_size
set_option linter.unusedVariables false
set_option maxRecDepth 100000

section
variable {w w' : World} {B g k C acts : Nat} {dead : Bool}
theorem nilCuts (m : Nat) (w : World) : (binOp .eql 152 (.map (some m)) (.map none)).run Try.prog w = .ok (.bool false) w := by kernel_rfl
theorem cut_c (h : CutAt w B g k C acts dead) (x : Int) (hx : -9223372036854775808 ≤ x ∧ x ≤ 9223372036854775807) (f : Int) (hf : (Lit.int .u64 f).wf = true) (hC : C ≤ 1000) :
    Calls Try.prog 119 #[.pointer (some ⟨g, 0, none⟩), .int .i64 x, .int .u64 f] w fun e w' => e = .returned (.tuple #[]) ∧ CutAt w' B g k (C + 1) acts dead ∧ Keeps [k] w w' := by
  obtain ⟨u, b, hlk⟩ := h.look x hx
  have l0 := hlk w rfl
  have hkey := keyInt x hx
  obtain ⟨q, m, n, d0, d1, d2, d3, d4, d5⟩ := h.cells
  have hnm := fun W => nilCuts k W
  have h0 := Lib.hid h
  have hsame := Lib.hid (h.more (Nat.le_succ C))
  clear h hlk d0 d1 d2 d5 hx
  cases b with
  | true =>
    go_enter Try.func119, Try.ntmps119
    go_wp2
    go_returns
    exact ⟨rfl, hsame.out, Keeps.refl _ _⟩
  | false =>
    by_cases hle : x ≤ (acts : Int)
    · go_enter Try.func119, Try.ntmps119
      go_wp2
      go_returns
      exact ⟨rfl, hsame.out, Keeps.refl _ _⟩
    · obtain ⟨D, c, hown, hc⟩ := h0.out.cuts
      replace hown := Lib.hid hown; replace hc := Lib.hid hc; replace hC := Lib.hid hC; replace hf := Lib.hid hf
      go_enter Try.func119, Try.ntmps119
      go_wp2_with (at_mapUpdate; go_loud (refine wpList_mapUpdate_in _ rfl _ _ _ 152 rfl 3 66 keyedInt Try.underlying152 (plainElem Try.prog 66) k c D rfl hown.out (by have := hc.out; have := hC.out; unfold maxLen; omega) _ _ (at_ x) rfl rfl hkey _ [] (plainElem_int Try.underlying66 hf.out) ?_; intro w8 hown8 hturn8; have k8 := (Keeps.refl [k] w).turned (Or.inl (by simp)) hturn8; replace hown8 := Lib.hid hown8; replace k8 := Lib.hid k8))
      go_end0
      refine ⟨rfl, ?_, k8.out⟩
      obtain ⟨q3, m3, n3, hb3⟩ := h0.out.blk
      exact ⟨⟨q3, m3, n3, (k8.out.block g h0.out.lt.1 (by simpa using h0.out.ne)).trans hb3⟩, ⟨_, c + 1, hown8.out, by have := hc.out; omega⟩, h0.out.ge, h0.out.ne⟩
theorem CutAt.ofDisk {q m : Nat} {st : DSt} (h : DiskAt w B g q m k (.slice none 0 0) st) : CutAt w B g k 0 st.acts st.dead := by
  obtain ⟨D, h1, _⟩ := h.cuts
  exact ⟨⟨q, m, _, h.blk⟩, ⟨D, 0, h1, Nat.le_refl _⟩, ⟨h.ge.1, h.ge.2.2.2⟩, h.ne.2.2.1⟩
end
def CutArg (w : World) (a : Option Addr) (len : Nat) : Prop := ∀ i, i < len → ∃ b o x f, a = some ⟨b, o, none⟩ ∧ b < w.heap.size ∧ w.cell? ⟨b, o + i * 2, none⟩ = some (.int .i64 x) ∧ w.cell? ⟨b, o + i * 2 + 1, none⟩ = some (.int .u64 f) ∧ (-9223372036854775808 ≤ x ∧ x ≤ 9223372036854775807) ∧ (Lit.int .u64 f).wf = true
theorem CutArg.of {w : World} {a : Option Addr} {len len' : Nat} (h : SliceArg w a len 2 (fun j v => match j with | 0 => ∃ x, v = .int .i64 x ∧ (Lit.int .i64 x).wf = true | 1 => ∃ x, v = .int .u64 x ∧ (Lit.int .u64 x).wf = true | _ => False)) (hl : len' ≤ len) : CutArg w a len' := by
  intro i hi
  obtain ⟨_, h2⟩ := h
  obtain ⟨b, o, ha, hb, hc⟩ := h2.resolve_left (by omega)
  obtain ⟨v0, c0, x0, rfl, w0⟩ := hc i (by omega) 0 (by omega)
  obtain ⟨v1, c1, x1, rfl, w1⟩ := hc i (by omega) 1 (by omega)
  exact ⟨b, o, x0, x1, ha, hb, by simpa using c0, c1, of_wf_i64 w0, w1⟩
theorem CutArg.below {w w' : World} {a : Option Addr} {len : Nat} (h : CutArg w a len) (k : Below w.heap.size w w') : CutArg w' a len := by
  intro i hi
  obtain ⟨b, o, x, f, ha, hb, c0, c1, h3⟩ := h i hi
  exact ⟨b, o, x, f, ha, Nat.lt_of_lt_of_le hb k.size, (k.cell hb).trans c0, (k.cell hb).trans c1, h3⟩
set_option maxHeartbeats 1000000 in
theorem new_c (n : Nat) (h1 : 1 ≤ n) (h2 : n ≤ 4096) (w : World) (a : Option Addr) (len cap : Nat) (hlen : len ≤ 5) (ha : CutArg w a len) : Calls Try.prog 101 #[.int .i64 (n : Int), .slice a len cap] w fun e w' => e = .returned (.tuple #[.pointer (some ⟨w.heap.size + 1 + 1 + 1, 0, none⟩), .int .i64 0]) ∧ CutAt w' w.heap.size (w.heap.size + 1 + 1 + 1) (w.heap.size + 1 + 1) len 0 false ∧ Below w.heap.size w w' := by
  have g1 : ¬ (n : Int) < 1 := by omega
  have g2 : ¬ (4096 : Int) < (n : Int) := by omega
  have hmk := fun W => run_make_strs n (by omega) W
  have hmm := @run_makeMap Try.prog
  have hdm := disk_made w n
  have hbm : Below w.heap.size w ((((w.alloc (.cells (madeCells (Value.string ⟨#[]⟩).cells n) 9)).alloc (.map #[] 0)).alloc (.map #[] 0)).alloc (.cells #[.slice (some ⟨w.heap.size, 0, none⟩) n n, .map (some (w.heap.size + 1)), .slice none 0 0, .map (some (w.heap.size + 1 + 1)), .int .i64 0, .bool false] 154)) := ((((Below.refl _ w).alloc (Nat.le_refl _) _).alloc (by simp) _).alloc (by simp; omega) _).alloc (by simp; omega) _
  replace ha := Lib.hid ha; replace hdm := Lib.hid hdm; replace hbm := Lib.hid hbm
  go_enter Try.func101, Try.ntmps101
  go_wp2_with (go_at_call 118; (with_reducible refine (repeat_any _).mono ?_); rintro e w1 ⟨rfl, b1⟩; have hD := hdm.out.below b1; have hB := belowCont hbm.out b1; obtain ⟨d0, d1, d2, d3, d4, d5⟩ := hD.cells; have hl0 : (List.replicate n ([] : List UInt8)).length = n := List.length_replicate ..; simp only [blankSt, hl0] at d0; replace hD := Lib.hid hD; replace hB := Lib.hid hB; clear b1)
  clear d0 d1 d2 d3 d4 d5 hl0
  go_loopg [29] n (fun kk s29 wr => ∃ i : Nat, s29 = .int .i64 (i : Int) ∧ i + kk = n ∧ DiskAt wr w.heap.size (w.heap.size + 1 + 1 + 1) w.heap.size (w.heap.size + 1) (w.heap.size + 1 + 1) (.slice none 0 0) (blankSt (filled n i)) ∧ Below w.heap.size w wr)
  case atStart => exact ⟨0, rfl, by omega, by have h : filled n 0 = List.replicate n [] := by simp [filled]
                                              rw [h]; exact hD.out, hB.out⟩
  case round =>
    clear hD hB hdm hbm
    obtain ⟨i, rfl, hik, hD, hB⟩ := hrel
    by_cases hi : i < n
    · obtain ⟨K, rfl⟩ : ∃ K : Nat, gk = K + 1 := ⟨gk - 1, by omega⟩
      obtain ⟨d0, d1, d2, d3, d4, d5⟩ := hD.cells
      have hl0 := filled_len n i (by omega)
      simp only [blankSt, hl0] at d0
      have e1 : (0 : Int) ≤ (i : Int) := by omega
      have e2 : (i : Int) < (n : Int) := by omega
      have hfr := hD.sure.free i
      obtain ⟨s0, hs0⟩ : ∃ s, (filled n i)[i]? = some s := ⟨_, List.getElem?_eq_getElem (by omega)⟩
      have hce := hD.sure.cell hs0
      have hn5 : i < 5000 := by omega
      have hD2 := hD.setSure i Z512
      have hst : { (blankSt (filled n i)) with sure := (blankSt (filled n i)).sure.set i Z512 } = blankSt (filled n (i + 1)) := by rw [← filled_step n i hi]; rfl
      rw [hst] at hD2
      replace hD := Lib.hid hD; replace hD2 := Lib.hid hD2; replace hB := Lib.hid hB; replace hn5 := Lib.hid hn5
      have hik2 := Lib.hid hik
      clear hs0 hl0 hi hik d1 d2 d3 d4 d5 hst
      go_wp2
      go_roundg K
      case measure => omega
      case rel => exact ⟨i + 1, by first | go_num | (have := hn5.out; go_num) | (have := hn5.out; simp; unfold wrap64; omega), by have := hik2.out; omega, hD2.out, hB.out.setCell (p := ⟨w.heap.size, i, none⟩) (Nat.le_refl _) _⟩
    · obtain rfl : i = n := by omega
      rw [filled_all] at hD
      have e2 : ¬ (i : Int) < (i : Int) := by omega
      replace hD := Lib.hid hD; replace hB := Lib.hid hB
      clear hik hi
      go_wp2
      have hC0 := CutAt.ofDisk hD.out
      go_loopg [42] len (fun kk s42 wx => ∃ j : Nat, s42 = .int .i64 (j : Int) ∧ j + kk = len ∧ CutAt wx w.heap.size (w.heap.size + 1 + 1 + 1) (w.heap.size + 1 + 1) j 0 false ∧ Below w.heap.size w wx)
      case atStart => exact ⟨0, rfl, by omega, hC0, hB.out⟩
      case round =>
        clear hD hB hC0
        obtain ⟨j, rfl, hjk, hD, hB⟩ := hrel
        by_cases hj : j < len
        · obtain ⟨K, rfl⟩ : ∃ K : Nat, gk = K + 1 := ⟨gk - 1, by omega⟩
          obtain ⟨b, o, x, f, rfl, hbl, e0, e1, hx, hf⟩ := ha.out j hj
          have y0 : wr.cell? ⟨b, o + j * 2, none⟩ = some (.int .i64 x) := (hB.cell hbl).trans e0
          have y1 : wr.cell? ⟨b, o + j * 2 + 1, none⟩ = some (.int .u64 f) := (hB.cell hbl).trans e1
          have j0 : (0 : Int) ≤ (j : Int) := by omega
          have j1 : (j : Int) < (len : Int) := by omega
          have hcu := fun W (h : CutAt W w.heap.size (w.heap.size + 1 + 1 + 1) (w.heap.size + 1 + 1) j 0 false) => cut_c h x hx f hf (by omega)
          replace hcu := Lib.hid hcu; replace hD := Lib.hid hD; replace hB := Lib.hid hB; replace hjk := Lib.hid hjk; replace hx := Lib.hid hx; replace hf := Lib.hid hf
          clear e0 e1 hbl
          go_wp2_with (go_at_call 119; (with_reducible refine (hcu.out _ (hD.out.below ((Below.refl _ _).alloc (Nat.le_refl _) _))).mono ?_); rintro e w3 ⟨rfl, h3, k3⟩; replace hB := Lib.hid ((hB.out.alloc hB.out.size _).trans (k3.below (Nat.le_trans hB.out.size (by simp)) (by intro y hy; simp at hy; subst hy; omega))); replace h3 := Lib.hid h3; clear k3)
          go_roundg K
          case measure => have := hjk.out; omega
          case rel => exact ⟨j + 1, by go_num, by have := hjk.out; omega, h3.out, hB.out⟩
        · obtain rfl : j = len := by omega
          replace hD := Lib.hid hD; replace hB := Lib.hid hB
          clear hjk hj
          go_wp2
          go_returns
          exact ⟨rfl, hD.out, hB.out⟩
def K32' : ByteArray := K32
set_option maxHeartbeats 2000000 in
theorem made_c (w : World) (a : Option Addr) (len cap : Nat) (hl : len ≤ 5) (ha : CutArg w a len) : Calls Try.prog 46 #[.slice a len cap] w fun e w' => ∃ d g k, e = .returned (.tuple #[.pointer (some ⟨d, 0, none⟩), .pointer (some ⟨g, 0, none⟩)]) ∧ DevAt w' d K32 (str Z33) 0 g ∧ CutAt w' w.heap.size g k 5 0 false ∧ w.heap.size ≤ d ∧ Below w.heap.size w w' := by
  have c1 : Calls Try.prog 101 #[.int .i64 2, .slice a len cap] w fun e w' => e = .returned (.tuple #[.pointer (some ⟨w.heap.size + 1 + 1 + 1, 0, none⟩), .int .i64 0]) ∧ CutAt w' w.heap.size (w.heap.size + 1 + 1 + 1) (w.heap.size + 1 + 1) len 0 false ∧ Below w.heap.size w w' := new_c 2 (by decide) (by decide) w a len cap hl ha
  have c2 : ∀ w' g, Calls Try.prog 102 #[.string ⟨#[48, 49, 50, 51, 52, 53, 54, 55, 56, 57, 97, 98, 99, 100, 101, 102, 48, 49, 50, 51, 52, 53, 54, 55, 56, 57, 97, 98, 99, 100, 101, 102]⟩, .pointer (some ⟨g, 0, none⟩)] w' fun e w2 => ∃ d, e = .returned (.tuple #[.pointer (some ⟨d, 0, none⟩), .int .i64 0]) ∧ w'.heap.size ≤ d ∧ DevAt w2 d K32 (str Z33) 0 g ∧ Below w'.heap.size w' w2 := fun w' g => dnew_ok K32 g rfl w'
  replace c1 := Lib.hid c1; replace c2 := Lib.hid c2; replace hl := Lib.hid hl
  clear ha
  go_enter Try.func46, Try.ntmps46
  go_wp2_with (first
    | (go_at_call 101; (with_reducible refine c1.out.mono ?_); rintro e w1 ⟨rfl, hD, b1⟩; replace hD := Lib.hid hD; replace b1 := Lib.hid b1)
    | (go_at_call 102; (with_reducible refine (c2.out _ _).mono ?_); rintro e w2 ⟨d, rfl, hd, hv, b2⟩; replace hd := Lib.hid hd; replace hv := Lib.hid hv; replace b2 := Lib.hid b2))
  go_returns
  exact ⟨_, _, _, rfl, hv.out, (hD.out.below b2.out).more hl.out, Nat.le_trans b1.out.size hd.out, belowCont b1.out b2.out⟩
section
variable {w w' : World} {d : Nat} {key reg : ByteArray} {c B g k C acts : Nat}
theorem dev_apart_c {dead : Bool} (h : DevAt w d key reg c g) (hD : CutAt w B g k C acts dead) : d ≠ g ∧ d ≠ k := by
  obtain ⟨q, m, n, hb⟩ := hD.blk
  obtain ⟨D, c2, ⟨es, clock, hk, _⟩, _⟩ := hD.cuts
  unfold DevAt at h
  refine ⟨fun e => ?_, fun e => ?_⟩
  · subst e; have := h.symm.trans hb; injection this with this; injection this with _ this; exact absurd this (by decide)
  · subst e; have := h.symm.trans hk; cases this
theorem bump_dead (hD : CutAt w B g k C acts true) (h : DevAt w d key reg c g) (s : ByteArray) (hs : s.size = 33) : Calls Try.prog 53 #[.pointer (some ⟨d, 0, none⟩), .string s] w fun e w' => e = .returned (.int .i64 7) ∧ Below w.heap.size w w' := by
  have hact := act_dead hD
  have h1 : (s.size : Int) = 33 := by omega
  obtain ⟨d0, d1, d2, d3⟩ := h.cells
  replace hact := Lib.hid hact
  clear h hD hs
  go_enter Try.func53, Try.ntmps53
  go_wp2_with (go_at_call 103; (with_reducible refine hact.out.mono ?_); rintro e w1 ⟨rfl, b1⟩)
  go_ret
  exact ⟨rfl, b1⟩
def BumpTo (w w' : World) (d : Nat) (key reg s : ByteArray) (c B g k C acts : Nat) (e : Ending) : Prop := (e = .returned (.int .i64 7) ∧ DevAt w' d key reg c g ∧ CutAt w' B g k C (acts + 1) true ∧ Keeps [d, g, k] w w') ∨ (e = .returned (.int .i64 0) ∧ DevAt w' d key s (c + 1) g ∧ CutAt w' B g k C (acts + 1) false ∧ Keeps [d, g, k] w w')
theorem bump_c (hD : CutAt w B g k C acts false) (h : DevAt w d key reg c g) (ha : acts < 1000000) (hc : c < 1000000) (s : ByteArray) (hs : s.size = 33) : Calls Try.prog 53 #[.pointer (some ⟨d, 0, none⟩), .string s] w fun e w' => BumpTo w w' d key reg s c B g k C acts e := by
  have hap := dev_apart_c h hD
  have hact := act_c hD ha
  have h1 : (s.size : Int) = 33 := by omega
  obtain ⟨d0, d1, d2, d3⟩ := h.cells
  have e1 : IntKind.u64.wrap ((c : Int) + 1) = (c : Int) + 1 := IntWalk.u64_in _ (by omega)
  have hkeep : ∀ w1, Keeps [g, k] w w1 → DevAt w1 d key reg c g := fun w1 kk => h.keep kk (by simp [hap.1, hap.2])
  replace hact := Lib.hid hact; replace hkeep := Lib.hid hkeep
  clear h hD ha hs
  go_enter Try.func53, Try.ntmps53
  go_wp2_with (go_at_call 103; (with_reducible refine hact.out.mono ?_); rintro e w1 ⟨r, rfl, hD1, k1⟩; have hv := hkeep.out w1 k1; obtain ⟨x0, x1, x2, x3⟩ := hv.cells; have f1 := hv.free 1; have f2 := hv.free 2; have p1 := hv.put s (c + 1) ((c : Int) + 1) (by omega); replace hv := Lib.hid hv; replace p1 := Lib.hid p1; replace hD1 := Lib.hid hD1; replace k1 := Lib.hid k1; cases r)
  · go_ret
    refine .inr ⟨rfl, p1.out, hD1.out.keep (((Keeps.refl [d] w1).setCell (p := ⟨d, 2, none⟩) (Or.inl (by simp)) _).setCell (p := ⟨d, 1, none⟩) (Or.inl (by simp)) _) (by simpa using Ne.symm hap.1) (by simpa using Ne.symm hap.2), (((k1.out.more (by simp)).setCell (p := ⟨d, 2, none⟩) (Or.inl (by simp)) _).setCell (p := ⟨d, 1, none⟩) (Or.inl (by simp)) _)⟩
  · go_ret
    exact .inl ⟨rfl, hv.out, hD1.out, k1.out.more (by simp)⟩
theorem key_any (h : DevAt w d key reg c g) : Calls Try.prog 55 #[.pointer (some ⟨d, 0, none⟩)] w fun e w' => e = .returned (.string key) ∧ Below w.heap.size w w' := by
  obtain ⟨d0, d1, d2, d3⟩ := h.cells
  clear h d1 d2 d3
  go_enter Try.func55, Try.ntmps55
  go_wp2
  go_ret
  exact ⟨rfl, by go_grown⟩
end
theorem bytes_at {w : World} {a : Option Addr} {len i : Nat} (h : SliceArg w a len 1 (fun _ v => ∃ x, v = .int .u8 x ∧ (Lit.int .u8 x).wf = true)) (hi : i < len) : ∃ b o, ∃ c : UInt8, a = some ⟨b, o, none⟩ ∧ b < w.heap.size ∧ w.cell? ⟨b, o + i, none⟩ = some (.int .u8 (c.toNat : Int)) := by
  obtain ⟨_, h2⟩ := h
  obtain ⟨b, o, ha, hb, hc⟩ := h2.resolve_left (by omega)
  obtain ⟨v0, c0, x0, rfl, w0⟩ := hc i hi 0 (by omega)
  have := (by simpa [Lit.wf, IntKind.min, IntKind.max, IntKind.signed, IntKind.bits] using w0 : 0 ≤ x0 ∧ x0 ≤ 255)
  refine ⟨b, o, UInt8.ofNat x0.toNat, ha, hb, ?_⟩
  have e : ((UInt8.ofNat x0.toNat).toNat : Int) = x0 := by rw [UInt8.toNat_ofNat']; omega
  rw [e]; simpa using c0
theorem bools_at {w : World} {a : Option Addr} {len i : Nat} (h : SliceArg w a len 1 (fun _ v => ∃ x, v = .bool x)) (hi : i < len) : ∃ b o, ∃ c : Bool, a = some ⟨b, o, none⟩ ∧ b < w.heap.size ∧ w.cell? ⟨b, o + i, none⟩ = some (.bool c) := by
  obtain ⟨_, h2⟩ := h
  obtain ⟨b, o, ha, hb, hc⟩ := h2.resolve_left (by omega)
  obtain ⟨v0, c0, x0, rfl⟩ := hc i hi 0 (by omega)
  exact ⟨b, o, x0, ha, hb, by simpa using c0⟩
end Go.Proofs.Ytmlphodmbkceoaa.disk
