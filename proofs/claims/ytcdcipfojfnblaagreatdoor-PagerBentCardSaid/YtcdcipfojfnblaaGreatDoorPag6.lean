/- A pager on a new disk: awake; no pager does nothing (the law PagerNone). The table of salts is a premise. -/
import Derived.Test.YtcdcipfojfnblaaGreatDoorPag5
import Derived.Laws.StructEq
namespace Go.Proofs.YtcdcipfojfnblaaGreatDoor.pager
open Go.RowKit mach mpr
attribute [local go_sem ↓] Go.wp_at_zero Go.wp_at_succ
set_option linter.unusedVariables false
set_option linter.unusedSimpArgs false
set_option maxRecDepth 100000

section
variable {w W : World} {X : List Nat} {rs : List Rs}
def masterL : List UInt8 := [48, 49, 50, 51, 52, 53, 54, 55, 56, 57, 97, 98, 99, 100, 101, 102, 48, 49, 50, 51, 52, 53, 54, 55, 56, 57, 97, 98, 99, 100, 101, 102]
/-- a new pager and all its parts -/
def news (n : Nat) (most : Int) (p g d b sg km fm : Nat) : List Rs :=
  [pg p (PSt.fresh g d b sg km fm most), dev d (str masterL) (str disk.Z33) 0 g, dsk g (disk.blankSt (List.replicate n disk.Z512)), bk b .none, sp sg (min 2 (n : Int)) (n : Int) (min 2 (n : Int)) (fun _ => false) 0, mset fm (fun _ => false) 0, kmap km .none, kque (.slice none 0 0) .none]
set_option maxHeartbeats 4000000 in
theorem made_any (h : Hp w X rs W) (n : Nat) (h1 : 1 ≤ n) (h2 : n ≤ 4096) (most : Int) (hm : -9223372036854775808 ≤ most ∧ most ≤ 9223372036854775807) :
    Calls Tryz.prog 8 #[.int .i64 (n : Int), .int .i64 most] W fun e w' => ∃ p g d b sg km fm, e = .returned (.tuple #[.pointer (some ⟨p, 0, none⟩), .pointer (some ⟨g, 0, none⟩), .pointer (some ⟨d, 0, none⟩), .pointer (some ⟨b, 0, none⟩)]) ∧ Hp w X (news n most p g d b sg km fm ++ rs) w' := by
  have kD := fun W' (h' : Hp w X rs W') => disk_new_hp h' n h1 h2
  have kV := fun W' l (h' : Hp w X l W') g => device_new_hp h' (str masterL) g (by rw [str_size]; rfl)
  have kB := fun W' l (h' : Hp w X l W') => book_new_hp h'
  have kS : ∀ W' l, Hp w X l W' → Calls Tryz.prog 34 #[.int .i64 (n : Int), .int .i64 2] W' fun e w' => ∃ g, e = .returned (.pointer (some ⟨g, 0, none⟩)) ∧ Hp w X (sp g (min 2 (n : Int)) (n : Int) (min 2 (n : Int)) (fun _ => false) 0 :: l) w' := fun W' l h' => by
    have := space_new_hp h' (n : Int) 2 (by omega)
    rw [show max (n : Int) 0 = (n : Int) by omega, show max (2 : Int) 0 = 2 by omega] at this
    exact this
  have kP := fun W' l (h' : Hp w X l W') g d b s => new_any (g := g) (d := d) (b := b) (s := s) h' most hm
  have eM : str masterL = ⟨#[48, 49, 50, 51, 52, 53, 54, 55, 56, 57, 97, 98, 99, 100, 101, 102, 48, 49, 50, 51, 52, 53, 54, 55, 56, 57, 97, 98, 99, 100, 101, 102]⟩ := rfl
  rw [eM] at kV
  have hp := Lib.hid h
  replace kD := Lib.hid kD; replace kV := Lib.hid kV; replace kB := Lib.hid kB; replace kS := Lib.hid kS; replace kP := Lib.hid kP
  clear h h1 h2 hm eM
  go_enter Tryz.func8, Tryz.ntmps8
  go_wp2_with (first
    | (go_at_call 30; (with_reducible refine (kD.out _ hp.out).mono ?_); rintro e w1 ⟨g, rfl, h1⟩; replace hp := Lib.hid h1; clear h1)
    | (go_at_call 31; (with_reducible refine (kV.out _ _ hp.out _).mono ?_); rintro e w2 ⟨d, rfl, h1⟩; replace hp := Lib.hid h1; clear h1)
    | (go_at_call 32; (with_reducible refine (kB.out _ _ hp.out).mono ?_); rintro e w3 ⟨b, rfl, h1⟩; replace hp := Lib.hid h1; clear h1)
    | (go_at_call 34; (with_reducible refine (kS.out _ _ hp.out).mono ?_); rintro e w4 ⟨sg, rfl, h1⟩; replace hp := Lib.hid h1; clear h1)
    | (go_at_call 33; (with_reducible refine (kP.out _ _ hp.out _ _ _ _).mono ?_); rintro e w5 ⟨p, km, fm, rfl, h1⟩; replace hp := Lib.hid h1; clear h1))
  go_returns
  refine ⟨p, g, d, b, sg, km, fm, rfl, ?_⟩
  have h0 := (hp.out.tailzNil 34 2)
  have h1 := (((((((h0.front 3 rfl).front 3 rfl).front 4 rfl).front 5 rfl).front 7 rfl).front 7 rfl).front 7 rfl)
  exact h1
theorem drop_nil (n : Int) (s : ByteArray) (W : World) : Calls Tryz.prog 11 #[.pointer none, .agg #[.int .i64 n, .string s]] W fun e w' => e = .returned (.tuple #[]) ∧ Below W.heap.size W w' := by
  go_enter Tryz.func11, Tryz.ntmps11
  go_wp2
  go_returns
  exact ⟨rfl, (Below.refl _ _).alloc (Nat.le_refl _) _⟩
theorem done_nil (W : World) : Calls Tryz.prog 12 #[.pointer none] W fun e w' => e = .returned (.tuple #[]) ∧ Below W.heap.size W w' := by
  go_enter Tryz.func12, Tryz.ntmps12
  go_wp2
  go_returns
  exact ⟨rfl, by go_grown⟩
theorem undo_nil (W : World) : Calls Tryz.prog 13 #[.pointer none] W fun e w' => e = .returned (.tuple #[]) ∧ Below W.heap.size W w' := by
  go_enter Tryz.func13, Tryz.ntmps13
  go_wp2
  go_returns
  exact ⟨rfl, by go_grown⟩
theorem kept_nil (W : World) : Calls Tryz.prog 16 #[.pointer none] W fun e w' => e = .returned (.tuple #[.int .i64 0, .int .i64 0, .int .i64 0]) ∧ Below W.heap.size W w' := by
  go_enter Tryz.func16, Tryz.ntmps16
  go_wp2
  go_returns
  exact ⟨rfl, by go_grown⟩
theorem space_nil (W : World) : Calls Tryz.prog 17 #[.pointer none] W fun e w' => e = .returned (.pointer none) ∧ Below W.heap.size W w' := by
  go_enter Tryz.func17, Tryz.ntmps17
  go_wp2
  go_ret
  exact ⟨rfl, by go_grown⟩
theorem write_nil (s : ByteArray) (W : World) : Calls Tryz.prog 15 #[.pointer none, .string s] W fun e w' => e = .returned (.tuple #[.agg #[.int .i64 0, .string ⟨#[]⟩], .int .i64 1]) ∧ Below W.heap.size W w' := by
  have hp := Lib.hid ((Hp.none_ W []).alloc #[.int .i64 0, .string ⟨#[]⟩] 34)
  go_enter Tryz.func15, Tryz.ntmps15
  go_wp2
  exact bodyPost_ret (ref_results _ _ _ 4 5 W.heap.size #[.int .i64 0, .string ⟨#[]⟩] (.int .i64 1) rfl rfl rfl (hp.out.box (i := 0) rfl) rfl) rfl ⟨rfl, hp.out.bel⟩
/-- 'text' -/
def textL : List UInt8 := [116, 101, 120, 116]
theorem none_good : ∀ r ∈ Kp.none.es, (Lit.int .i64 r.1).wf = true ∧ r.2.length ≤ 1000000000 := by intro r hr; cases hr
theorem kept_new (most : Int) (pl : Int) (s t : List UInt8) (h : 1 ≤ most) : (Kp.none.keep most pl s t).f (rk pl s) = some t ∧ (Kp.none.keep most pl s t).es = [(pl, s)] ∧ (Kp.none.keep most pl s t).c = 1 := by
  unfold Kp.keep
  rw [if_neg (by simp [Kp.none]), if_neg (by simp [Kp.none]; omega)]
  simp [Kp.add, Kp.none]
/-- the block that is laid first -/
def firstB (t : List UInt8) : List UInt8 := sha.blockB masterL 0 0 1 2 t
theorem firstB_len (t : List UInt8) (ht : t.length ≤ 462) : (firstB t).length = 512 := sha.blockB_len _ _ _ _ _ _ ht
theorem write_new {n : Nat} {most : Int} {p g d b sg km fm : Nat} (h : Hp w X (news n most p g d b sg km fm ++ rs) W) (hT : SaltIn w X) (h1 : 3 ≤ n) (h2 : n ≤ 4096) (t : List UInt8) (ht : t.length ≤ 462) :
    Calls Tryz.prog 15 #[.pointer (some ⟨p, 0, none⟩), .string (str t)] W fun e w' => e = .returned (.tuple #[.agg #[.int .i64 2, .string (str (sha.shaB sha.salts (firstB t)))], .int .i64 0]) ∧
      ∃ v, Hp w X (pg p ⟨g, d, b, sg, 0, 0, 1, km, v, min (max most 1) 256, 0, 0, fm, .slice none 0 0⟩ :: dev d (str masterL) (str disk.Z33) 0 g :: dsk g ((disk.blankSt (List.replicate n disk.Z512)).wr 2 (firstB t)) :: bk b (sha.noteS .none (sha.shaB sha.salts (firstB t)) (firstB t)) ::
        sp sg 2 (n : Int) 2 (fun y => false || y == 2) 1 :: mset fm (fun y => false || y == 2) 1 :: kmap km (Kp.none.keep (min (max most 1) 256) 2 (sha.shaB sha.salts (firstB t)) t) :: kque v (Kp.none.keep (min (max most 1) 256) 2 (sha.shaB sha.salts (firstB t)) t) :: rs) w' := by
  have hl : (disk.blankSt (List.replicate n disk.Z512)).sure.length = n := by simp [disk.blankSt]
  have e2 : min 2 (n : Int) = 2 := by omega
  unfold news at h
  rw [e2] at h
  have := write_any (n := 2) (t := t) h hT rfl rfl rfl rfl (by simp [PSt.fresh]) (by simp [PSt.fresh]) (by omega) (by simp [masterL]) rfl (by simp [disk.blankSt]) (by omega) (by omega) (by simp [disk.blankSt]) (by decide) ht (by omega) (by omega) (by omega) (by simp; omega) (by omega) (by simp) (by simp; omega) rfl (by intro y a b; simp at b; omega) (by omega) ⟨by simp [PSt.fresh]; omega, by simp [PSt.fresh]; omega⟩ (by simp [Kp.none]) (by simp [Kp.none]) none_good (firstB t) rfl _ rfl
  exact this
set_option maxHeartbeats 4000000 in
theorem awake_any (w : World) (hT : sha.SaltAt w sha.salts) : Calls Tryz.prog 9 #[] w fun e w' => e = .returned (.bool true) ∧ Below w.heap.size w w' := by
  have hT' : SaltIn w [] := ⟨hT, by simp⟩
  have kM := made_any (Hp.none_ w []) 6 (by omega) (by omega) 2 (by omega)
  have kW : ∀ W' p g d b sg km fm, Hp w [] (news 6 2 p g d b sg km fm ++ []) W' → _ := fun W' p g d b sg km fm h' => write_new h' hT' (by omega) (by omega) textL (by decide)
  obtain ⟨S, hS⟩ : ∃ S, S = sha.shaB sha.salts (firstB textL) := ⟨_, rfl⟩
  have hSl : S.length = 32 := by rw [hS]; exact sha.shaB_len _ _
  rw [← hS] at kW
  obtain ⟨kf, ke, kc⟩ := kept_new 2 2 S textL (by decide)
  have em : min (max (2 : Int) 1) 256 = 2 := by decide
  rw [em] at kW
  obtain ⟨k, hk⟩ : ∃ k, k = Kp.none.keep 2 2 S textL := ⟨_, rfl⟩
  rw [← hk] at kW kf
  obtain ⟨dd, hdd⟩ : ∃ x, x = (disk.blankSt (List.replicate 6 disk.Z512)).wr 2 (firstB textL) := ⟨_, rfl⟩
  obtain ⟨bb, hbb⟩ : ∃ x, x = sha.noteS .none S (firstB textL) := ⟨_, rfl⟩
  rw [← hdd, ← hbb] at kW
  have kR := fun W' p g d b sg km fm v l (h' : Hp w [] (pg p ⟨g, d, b, sg, 0, 0, 1, km, v, 2, 0, 0, fm, .slice none 0 0⟩ :: dev d (str masterL) (str disk.Z33) 0 g :: dsk g dd :: bk b bb :: sp sg 2 ((6 : Nat) : Int) 2 (fun y => false || y == 2) 1 :: mset fm (fun y => false || y == 2) 1 :: kmap km k :: kque v k :: l) W') => read_kept h' hT' rfl rfl rfl rfl 2 (by omega) S textL hSl kf ⟨Int.le_refl 0, by show (0 : Int) < 1000000000; decide⟩
  have eT : str textL = ⟨#[116, 101, 120, 116]⟩ := rfl
  rw [eT] at kW kR
  have e6 : ((6 : Nat) : Int) = 6 := rfl
  have e22 : ((2 : Nat) : Int) = 2 := rfl
  rw [e6] at kM
  rw [e22] at kR
  obtain ⟨SS, hSS⟩ : ∃ x, x = str S := ⟨_, rfl⟩
  rw [← hSS] at kW kR
  replace kM := Lib.hid kM; replace kW := Lib.hid kW; replace kR := Lib.hid kR
  clear hT hT' hS hSl hk hdd hbb eT e6 e22 hSS em kf ke kc
  go_enter Tryz.func9, Tryz.ntmps9
  go_upto_region 3 with (first
    | (go_at_call 8; (with_reducible refine (kM.out).mono ?_); rintro e w1 ⟨p, g, d, b, sg, km, fm, rfl, h1⟩; have hp := Lib.hid h1; clear h1)
    | (go_at_call 15; (with_reducible refine (kW.out _ _ _ _ _ _ _ _ hp.out).mono ?_); rintro e w2 ⟨rfl, v, h2⟩; replace hp := Lib.hid h2; clear h2))
  have hp2 := Lib.hid (toEnd8 (hp.out.alloc #[.int .i64 2, .string SS] 34))
  generalize hq : w2.heap.size = q at hp2 ⊢
  generalize World.alloc _ _ = W3 at hp2 ⊢
  clear hq hp
  have b0 : W3.cell? ⟨q, 0, none⟩ = some (.int .i64 2) := hp2.out.cell (i := 8) rfl 0
  have b1 : W3.cell? ⟨q, 1, none⟩ = some (.string SS) := hp2.out.cell (i := 8) rfl 1
  go_wp2_with (go_at_call 10; (with_reducible refine (kR.out _ _ _ _ _ _ _ _ _ _ hp2.out).mono ?_); rintro e w4 ⟨rfl, h4⟩; have hp4 := Lib.hid h4; clear h4; have b0 : w4.cell? ⟨q, 0, none⟩ = some (.int .i64 2) := hp4.out.cell (i := 8) rfl 0)
  go_ret
  exact ⟨rfl, hp4.out.bel⟩
end
end Go.Proofs.YtcdcipfojfnblaaGreatDoor.pager
