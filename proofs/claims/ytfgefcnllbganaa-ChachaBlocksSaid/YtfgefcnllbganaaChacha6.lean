/- ChaCha20 (package chacha): a block. No condition. -/
import Derived.Test.YtfgefcnllbganaaChacha5
namespace Go.Proofs.Ytfgefcnllbganaa.chacha
open Go.RowKit
attribute [local go_sem ↓] Go.wp_at_zero Go.wp_at_succ
set_option linter.unusedVariables false

theorem state16 : (Try.prog.info? 47).map (·.size) = some 16 := by kernel_rfl
theorem block64 : (Try.prog.info? 49).map (·.size) = some 64 := by kernel_rfl
theorem words_cells (xs : List Nat) : ((xs.map word).toArray).all (·.oneCell') = true := by
  rw [Array.all_eq_true_iff_forall_mem]
  intro v hv
  simp at hv
  obtain ⟨n, _, rfl⟩ := hv
  rfl
theorem bytes_cells (xs : List Nat) : ((xs.map byteN).toArray).all (·.oneCell') = true := by
  rw [Array.all_eq_true_iff_forall_mem]
  intro v hv
  simp at hv
  obtain ⟨n, _, rfl⟩ := hv
  rfl
theorem keepsRow (w : World) (g : Nat) (cs : Array Value) : Keeps [g] w (w.setRow g cs) :=
  ⟨rfl, rfl, rfl, by simp [World.setRow], fun k hk hx => setRow_far w g k cs (by simpa using hx)⟩
section
variable {ops : Array Oper} {rest : List Oper} {o : Oper} {a : Act} {w : World} {Q : Exit → Act → World → Prop}
theorem wpList_store_words (hgd : o.guard = none) (x y : Operand) (ho : o.op = .store 47 x y) (g : Nat) (xs : List Nat)
    (hx : a.eval x = .pointer (some ⟨g, 0, none⟩)) (hy : a.eval y = .agg (xs.map word).toArray) (hl : xs.length = 16)
    (hz : ∃ z, w.heap[g]? = some (.cells z 47 (0, 0)) ∧ z.size = 16)
    (h : ∀ w', Words w' g 47 xs → Keeps [g] w w' → wpList Try.prog ops Q rest (a.put o.dst undef) w') : wpList Try.prog ops Q (o :: rest) a w := by
  obtain ⟨z, hz1, hz2⟩ := hz
  have hs : ((xs.map word).toArray).size = 16 := by simp [hl]
  exact wpList_store_row hgd 47 x y ho g _ hx hy 47 z hz1 (by rw [hs]; exact state16) (by rw [hs, hz2]) (words_cells xs) (h _ (setRow_heap w g z _ 47 (0, 0) hz1) (keepsRow w g _))
theorem wpList_load_words (hgd : o.guard = none) (x : Operand) (ho : o.op = .load 47 x) (g : Nat) (xs : List Nat)
    (hx : a.eval x = .pointer (some ⟨g, 0, none⟩)) (hW : Words w g 47 xs) (hl : xs.length = 16)
    (h : wpList Try.prog ops Q rest (a.put o.dst (.agg (xs.map word).toArray)) w) : wpList Try.prog ops Q (o :: rest) a w := by
  have hs : ((xs.map word).toArray).size = 16 := by simp [hl]
  exact wpList_load_row hgd 47 x ho g hx 47 _ (0, 0) _ hW Try.underlying47 rfl (by rw [hs]; exact state16) h
theorem wpList_store_bytes8 (hgd : o.guard = none) (x y : Operand) (ho : o.op = .store 49 x y) (g : Nat) (xs : List Nat)
    (hx : a.eval x = .pointer (some ⟨g, 0, none⟩)) (hy : a.eval y = .agg (xs.map byteN).toArray) (hl : xs.length = 64)
    (hz : ∃ z, w.heap[g]? = some (.cells z 49 (0, 0)) ∧ z.size = 64)
    (h : ∀ w', Bytes8 w' g xs → Keeps [g] w w' → wpList Try.prog ops Q rest (a.put o.dst undef) w') : wpList Try.prog ops Q (o :: rest) a w := by
  obtain ⟨z, hz1, hz2⟩ := hz
  have hs : ((xs.map byteN).toArray).size = 64 := by simp [hl]
  exact wpList_store_row hgd 49 x y ho g _ hx hy 49 z hz1 (by rw [hs]; exact block64) (by rw [hs, hz2]) (bytes_cells xs) (h _ (setRow_heap w g z _ 49 (0, 0) hz1) (keepsRow w g _))
end
/-- a new block, and then only that block and newer ones change -/
theorem belowNew {w w1 w2 : World} {o : Obj} (h : Below w.heap.size w w1) (k : Keeps [w1.heap.size] (w1.alloc o) w2) : Below w.heap.size w w2 :=
  h.trans (((Below.refl _ w1).alloc h.size _).trans (k.below (by have := h.size; simp; omega) (by simp; exact h.size)))

set_option maxRecDepth 100000 in
set_option maxHeartbeats 2000000 in
theorem block_any (key nonce : ByteArray) (n : Nat) (hk : key.size = 32) (hn : nonce.size = 12) (hN : n < 4294967296) (w : World) :
    Calls Try.prog 9 #[.string key, .string nonce, .int .u32 (n : Int)] w fun e w' => e = .returned (.string (str (blockU (stAt key nonce n)))) ∧ Below w.heap.size w w' := by
  have hmay : ∀ w', Calls Try.prog 15 #[.string key, .string nonce] w' fun e w2 => e = .returned (.bool true) ∧ Below w'.heap.size w' w2 := fun w' => by
    have := may_any key nonce w'
    simpa [hk, hn] using this
  have hbeg := fun w' => begun_any key nonce hk hn w'
  have hlen := (begun_good key nonce).1
  have hgood := stAt_good key nonce n hN
  obtain ⟨ys, hys⟩ : ∃ ys, ys = stAt key nonce n := ⟨_, rfl⟩
  rw [← hys] at hgood ⊢
  unfold stAt at hys
  have hst := fun w' => stirred_any ys hgood w'
  obtain ⟨xs, hxs⟩ : ∃ xs, xs = begunL key nonce := ⟨_, rfl⟩
  rw [← hxs] at hbeg hlen hys
  have hylen := hgood.1
  have hblen := blockL_len ys
  have hat := fun (w : World) (q : Nat) (h : Bytes8 w q (blockL ys)) => h.at_
  obtain ⟨bs, hbs⟩ : ∃ bs, bs = blockL ys := ⟨_, rfl⟩
  rw [← hbs] at hst hblen hat
  have hconv : ∀ (w : World) (q : Nat), Bytes8 w q bs → (convert 42 9 (.slice (some ⟨q, 0, none⟩) 64 64)).run Try.prog w = .ok (.string (str (blockU ys))) w := fun w q h => by
    have := (hat w q h).text 64
    rwa [blockU_len] at this
  clear hxs hbs hk hn
  replace hst := Lib.hid hst
  replace hbeg := Lib.hid hbeg
  replace hmay := Lib.hid hmay
  replace hys := Lib.hid hys
  replace hat := Lib.hid hat
  replace hconv := Lib.hid hconv
  replace hgood := Lib.hid hgood
  replace hlen := Lib.hid hlen
  replace hylen := Lib.hid hylen
  replace hblen := Lib.hid hblen
  go_enter Try.func9, Try.ntmps9
  go_wp2_with (first
    | (go_at_call 15; (with_reducible refine (hmay.out _).mono ?_); rintro e w1 ⟨rfl, b1⟩; replace b1 := Lib.hid b1)
    | (go_at_call 33; (with_reducible refine (hbeg.out _).mono ?_); rintro e w2 ⟨rfl, b2⟩; replace b2 := Lib.hid (belowCont b1.out b2))
    | (refine wpList_store_words rfl (.tmp 7) (.tmp 15) rfl _ xs rfl rfl hlen.out ⟨_, heap_alloc_new _ _, rfl⟩ ?_; intro w3 W3 K3; replace K3 := Lib.hid (belowNew b2.out K3); have c3 := W3.cell (i := 12) (by rw [hlen.out]; decide); have f3 := W3.free 12; replace W3 := Lib.hid W3)
    | (refine wpList_load_words rfl (.tmp 7) rfl _ ys rfl (by rw [hys.out]; exact W3.out.put 12 n) hylen.out ?_)
    | (go_at_call 34; (with_reducible refine (hst.out _).mono ?_); rintro e w4 ⟨rfl, b4⟩; replace b4 := Lib.hid b4)
    | (refine wpList_store_bytes8 rfl (.tmp 8) (.tmp 19) rfl _ bs rfl rfl hblen.out ⟨_, heap_alloc_new _ _, rfl⟩ ?_; intro w5 W5 K5; have hc5 := hconv.out _ _ W5; replace W5 := Lib.hid W5; replace K5 := Lib.hid K5))
  go_ret
  exact ⟨rfl, belowNew (belowCont (K3.out.setCell (p := ⟨w2.heap.size, 12, none⟩) b2.out.size _) b4.out) K5.out⟩
end Go.Proofs.Ytfgefcnllbganaa.chacha
